import Derived.Test.YtekpghcckdjnhaaGreatDoorBz1
import Derived.Test.YtekpghcckdjnhaaGreatDoorBz11
import Derived.Lib.RuneCount
set_option maxRecDepth 100000
set_option maxHeartbeats 8000000
namespace Go.Proofs.YtekpghcckdjnhaaGreatDoor
open Go.RowKit Go.Shelf Go.Proofs.Tryz
def ML(w:Wo):Prop:=∃ m,w.cell? ⟨Tryz.laysM146_ren.g 1,0,none⟩=some (.int .i64 m)
theorem ML.of{w:Wo}(h:w.ShapedOpen prog):ML w:=Tryz.laysM146.s1_3 w h
theorem ML.below{w w':Wo}(h:ML w)(hb:Bw w w'):ML w':=by
 obtain⟨m,a⟩:=h;exact⟨m,(hb.cell (yJ _ _ a)).trans a⟩
def Y5(s:Bs):List Bs:=Lib.splitB ⟨#[47]⟩ 0 (Lib.countB s ⟨#[47]⟩) s
theorem ER(s:Bs):(Y5 s).map (·.data.toList)=ZH s.data.toList:=Ee s
theorem OD(s:Bs):(Y5 s).length=Lib.countB s ⟨#[47]⟩+1:=Lib.splitB_all ⟨#[47]⟩ (by decide) 0 _ s rfl
theorem ES(s:Bs):(Y5 s).length<=s.size+1:=by rw[OD];have:=Lib.countB_le ⟨#[47]⟩ (by decide) _ s (ye _);omega
theorem ET(s:Bs)(w:Wo)(h:ML w)(hs:s.size<=1048576):
  Calls prog 158 #[.string s,.string ⟨#[47]⟩] w fun e w'=>e= .returned (.slice (some ⟨w.heap.size,0,none⟩) (Y5 s).length (Y5 s).length)/\SS w' (some ⟨w.heap.size,0,none⟩) w.heap.size 0 (Y5 s)/\Bw w w'/\w.heap.size<w'.heap.size:=by
 obtain⟨m,b⟩:=h;refine Calls.mono (Any.strings_Split {Tryz.laysM146 with} Tryz.laysM146.i9 s ⟨#[47]⟩ m w (by omega) b (by decide)) ?_;rintro e w' ⟨rfl,rfl⟩;refine⟨?_,⟨fun _=>rfl,fun j hj=>?_⟩,(yH _ _).alloc (ye _) _,by simp⟩
 ·rw[OD]
 ·have a:=yG w (.cells ((Y5 s).map Value.string).toArray 9);show (w.alloc (.cells ((Y5 s).map Value.string).toArray 9)).cell? _=_
  rw[yF a];simp[hj]
end Go.Proofs.YtekpghcckdjnhaaGreatDoor
namespace Go.Proofs.YtekpghcckdjnhaaGreatDoor
open Go.RowKit Go.Proofs.Tryz
theorem EU{c:UInt8}{r:List UInt8}(h:¬ c.toNat=47):∃ p ps,ZH (c :: r)=(c :: p) :: ps:=by
 cases hp:ZH r with
 | nil=>exact absurd hp (Ga r)
 | cons p ps=>exact⟨p,ps,Y1 h hp⟩
theorem OE:∀ (l p:List UInt8),p∈ZH l->p.length<=l.length
 | [],p,h=>by simp[ZH]at h;subst h;simp
 | c :: r,p,h=>by
  have ih:=OE r;by_cases a:c.toNat=47
  ·rw[Gb r a]at h;rcases List.mem_cons.1 h with rfl | h
   ·simp
   ·have:=ih p h;simp;omega
  ·cases hp:ZH r with
   | nil=>exact absurd hp (Ga r)
   | cons q qs=>
    rw[Y1 a hp]at h;rcases List.mem_cons.1 h with rfl | h
    ·have:=ih q (by rw[hp];exact yp);simp;omega
    ·have:=ih p (by rw[hp];exact yv _ h);simp;omega
def JF(qs:List (List UInt8))(k:Nat)(done:List (List UInt8)):Prop:=qs.mapM zJ=((qs.drop k).mapM zJ).map (done++·)
theorem JF.start(qs:List (List UInt8)):JF qs 0 []:=by simp[JF]
theorem Xv(p:List UInt8)(ps:List (List UInt8)):(p :: ps).mapM zJ=(zJ p).bind fun t=>(ps.mapM zJ).map (t :: ·):=by
 rw[List.mapM_cons]
 cases zJ p with
 | none=>rfl
 | some t=>cases List.mapM zJ ps<;>rfl
theorem JF.step{qs done:List (List UInt8)}{k:Nat}{t:List UInt8}(h:JF qs k done)(hk:k<qs.length)(hu:zJ qs[k]=some t):JF qs (k+1) (done++[t]):=by
 unfold JF at *;rw[h,List.drop_eq_getElem_cons hk,Xv,hu];show Option.map (done++·) (Option.map (t :: ·) _)=_
 rw[Option.map_map];congr 1;funext x;simp
theorem JF.bad{qs done:List (List UInt8)}{k:Nat}(h:JF qs k done)(hk:k<qs.length)(hu:zJ qs[k]=none):qs.mapM zJ=none:=by
 unfold JF at h;rw[h,List.drop_eq_getElem_cons hk,Xv,hu];rfl
theorem JF.fin{qs done:List (List UInt8)}{k:Nat}(h:JF qs k done)(hk:qs.length<=k):qs.mapM zJ=some done:=by
 unfold JF at h;rw[h,List.drop_eq_nil_of_le hk];simp
theorem OG(s:Bs)(w:Wo)(hML:ML w)(hs:s.size<=1048576):
  Calls prog 131 #[.string s] w fun e w'=>∃ v,e= .returned (.tuple #[v,.bool (zG s.data.toList).isSome])/\OT w' w.heap.size v ((zG s.data.toList).getD [])/\Bw w w':=by
 obtain⟨i0,hi,W,X,Y⟩:=info_parts G1;by_cases h0:s.size=0
 ·have hse:s=⟨#[]⟩:=by
   have:s.data.toList=[]:=yN (by rw[Zn];exact h0);obtain⟨⟨l⟩⟩:=s;simp at this;subst this;rfl
  subst hse;clear h0;go_in;go_wp2;go_ret2;exact⟨_,rfl,World.ownsRow_nil _ _ _ _,yH _ _⟩
 ·have T:s.toList.isEmpty=false:=by
   rw[Lib.toList_data,List.isEmpty_eq_false_iff];intro e;exact h0 (by rw[← Zn,e];rfl)
  have h0':0<s.size:=by omega
  have R:=Zn s;have C:=zb (ET s w hML hs);have b:=ER s;have z:=ES s;have A:s.data.toList=s[0] :: s.data.toList.drop 1:=by have:=Qn s 0 h0';simpa using this
  obtain⟨F,a,B⟩:∃ F a,Y5 s=F :: a:=by
   cases h:Y5 s with
   | nil=>have:=OD s;rw[h]at this;simp at this
   | cons F a=>exact⟨F,a,rfl⟩
  rw[B]at b z;rw[B]at C;by_cases m:s[0].toNat=47
  ·rw[A,Gb _ m]at b;simp only[yi,List.cons.injEq]at b;have U:F=⟨#[]⟩:=by obtain⟨⟨l⟩⟩:=F;have:=b.1;simp at this;subst this;rfl
   have HQ:=zb b.2;have L:Hid (zG s.data.toList=QB (s.data.toList.drop 1)):=Sc (by omega) m;clear b A m R;subst U;go_in;go_wp2_with fail;refine (uh C).mono ?_;rintro e y ⟨rfl,H,N,z1⟩;have c0:=H.cell 0 (by simp);simp only[Nat.add_zero,List.getD_cons_zero]at c0;have hpl:a.length<=1048576:=by simp at z;omega
   have hpe:¬ a=[]:=by intro e;have h:=uh HQ;rw[e]at h;exact Ga _ h.symm
   have hpp:0<a.length:=by cases a with
    | nil=>exact absurd rfl hpe
    | cons _ _=>simp
   have HS1:=zb H;have E:=N.size;clear H z C B T;go_wp2_with (at_make;refine wpList_make_own _ rfl _ _ 55 rfl y.heap.size 9 i0 (.string ByteArray.empty) 1 underlying55 hi W X .i64 .i64 _ a.length rfl rfl rfl (by rw[Y];omega) (by unfold maxLen;omega) (ye _) ?_);intro w2 o f;have I:Hid (Bw y w2):=(yH _ _).grown f (ye _) (by intro k hk;cases hk);have K:=zb o;clear o f;go_wp2;go_loopw [5,25] (fun v i wr=>∃ (k:Nat) (d:List (List UInt8)),k<=a.length/\i= .int .i64 k/\d.length<=k/\OT wr y.heap.size v d/\Bw y wr/\JF (a.map (·.data.toList)) k d) (fun _ i _=>a.length - (intOf i).toNat)
   case atStart=>exact⟨0,[],yt _,rfl,ye _,uh K,uh I,JF.start _⟩
   case round=>
    obtain⟨k,d,hk,rfl,hdn,j,P,S⟩:=hrel;have HM:=zb S;have hwsz:=P.size;clear S K I c0;by_cases n:k<a.length
    ·have Q:=(uh HS1).cell (k+1) (by simp;omega);have hc:wr.cell? ⟨w.heap.size,1+k,none⟩=some (.string (a.getD k ByteArray.empty)):=by
      have h1:y.cell? ⟨w.heap.size,1+k,none⟩=some (.string (a.getD k ByteArray.empty)):=by
       rw[show 1+k=0+(k+1)from by omega,Q];simp
      exact (P.cell (p:=⟨w.heap.size,1+k,none⟩) z1).trans h1
     have V:(a.getD k ByteArray.empty).size<=1048576:=by
      have hm:(a.getD k ByteArray.empty).data.toList∈a.map (·.data.toList):=yO.2 ⟨_,by simp[n],rfl⟩;rw[uh HQ]at hm;have:=OE _ _ hm;rw[Zn,yu,Zn]at this;omega
     have D:(a.map (·.data.toList))[k]'(by simpa using n)=(a.getD k ByteArray.empty).data.toList:=by simp[n]
     have G:=zb (Es (a.getD k ByteArray.empty) wr V);clear Q V;generalize a.getD k ByteArray.empty=p at *
     cases ho:zJ p.data.toList with
     | none=>
      have J:=zb ((uh HM).bad (by simpa using n) (by rw[D];exact ho));rw[ho,On]at G;clear D ho;go_wp2_with fail;refine (uh G).mono ?_;rintro e w3 ⟨rfl,O⟩;have B3:=zh P O;clear j G;go_wp2;go_ret2;have M:zG s.data.toList=none:=by rw[uh L];unfold QB;rw[← uh HQ];exact uh J
      exact⟨_,by rw[M];rfl,by rw[M];exact World.ownsRow_nil _ _ _ _,N.trans (B3.mono E)⟩
     | some t=>
      have J:=zb ((uh HM).step (by simpa using n) (by rw[D];exact ho));rw[ho,Om]at G;clear D ho;go_wp2_with fail;refine (uh G).mono ?_;rintro e w3 ⟨rfl,O⟩;have B3:=zh P O;have x:=ZB j O;have hw3:=B3.size;clear j G O;go_wp2_with (at_builtin;refine wpList_append_own _ rfl (.tmp 36) (.tmp 38) 55 rfl y.heap.size 9 i0 (.string ByteArray.empty) 1 16 underlying55 hi W X Y rfl (by decide) _ _ _ rfl (x.alloc _) ⟨w3.heap.size,0,none⟩ 1 1 [.string (zz t)] rfl rfl (QD _ _ _) (Vv _) (by unfold maxLen;omega) (by omega) (by simp;omega) ?_);intro v4 w4 u g _;have B4:Bw y w4:=(B3.alloc hw3 _).grown g (by simp;omega) (fun k hk=>(x.lt k hk).1);have Z:=OT.step (t:=t) u;clear u g x;go_wp2;go_roundw
      case rel=>exact⟨k+1,d++[t],by omega,by go_num,by simp;omega,Z,B4,uh J⟩
      case measure=>simp[intOf];omega
    ·have J:=zb ((uh HM).fin (by simp;omega));go_wp2;go_ret2;have M:zG s.data.toList=some d:=by rw[uh L];unfold QB;rw[← uh HQ];exact uh J
     exact⟨_,by rw[M];rfl,by rw[M];exact qT j E,N.trans (P.mono E)⟩
  ·obtain⟨q,qs,hq⟩:=EU (r:=s.data.toList.drop 1) m;rw[A,hq]at b;simp only[yi,List.cons.injEq]at b;have U:F.toList.isEmpty=false:=by rw[Lib.toList_data,b.1];rfl
   have L:Hid (zG s.data.toList=none):=Sd (by omega) m;clear b A m R hq;go_in;go_wp2_with fail;refine (uh C).mono ?_;rintro e y ⟨rfl,H,N,z1⟩;have c0:=H.cell 0 (by simp);simp only[Nat.add_zero,List.getD_cons_zero]at c0;clear H C B z T;go_wp2;go_ret2;exact⟨_,by rw[uh L];rfl,by rw[uh L];exact World.ownsRow_nil _ _ _ _,N⟩
theorem Xw(w:Wo)(n B:Nat):Below B w (w.drewN n):=⟨rfl,rfl,rfl,ye _,fun _ _=>rfl⟩
theorem Xx(l:List UInt8):((zG l).getD []).length<=l.length:=by
 cases l with
 | nil=>simp[zG]
 | cons c r=>
  rw[zG];split
  ·unfold QB;have b:∀ (qs:List (List UInt8)),((qs.mapM zJ).getD []).length<=qs.length:=by
    intro qs;induction qs with
    | nil=>simp
    | cons q qs ih=>
     rw[Xv]
     cases zJ q with
     | none=>simp
     | some t=>
      cases hq:List.mapM zJ qs with
      | none=>simp
      | some ts=>rw[hq]at ih;simp at ih ⊢;omega
   have d:∀ (l:List UInt8),(ZH l).length<=l.length+1:=by
    intro l;induction l with
    | nil=>simp[ZH]
    | cons c r ih=>
     by_cases a:c.toNat=47
     ·rw[Gb r a];simp;omega
     ·cases hp:ZH r with
      | nil=>exact absurd hp (Ga r)
      | cons q qs=>rw[Y1 a hp];rw[hp]at ih;simp at ih ⊢;omega
   have:=b (ZH r);have:=d r;simp;omega
  ·simp
theorem SF(B b:Nat)(bs:List Value)(r:Int)(hr0: -2147483648<=r)(hr1:r<=2147483647)(w:Wo)(h:Lib.IsBuilder 192 5 B b bs w)(hlen:bs.length+4<=140737488355328)(hBw:B<=w.heap.size):
  Calls prog 206 #[.pointer (some ⟨b,0,none⟩),.int .i32 r] w fun e w'=>(∃ n:Int,e= .returned (.tuple #[.int .i64 n,.nilIface]))/\(Lib.BuilderAt 192 5 B b (.pointer (some ⟨b,0,none⟩)) (bs++Lib.runeCells r) w'/\Below B w w'/\Lib.OthersKept 5 (some b) w w'):=by
 go_in;go_wp2_with (go_at_call 214;refine (Ow B b bs _ h).mono ?_);rintro e z ⟨rfl,O,x,A⟩;obtain⟨K,v,l,f,I⟩:=O;have c0:z.cell? ⟨b,0,none⟩=some (.pointer (some ⟨b,0,none⟩)):=by rw[yF l];rfl
 have c1:z.cell? ⟨b,1,none⟩=some v:=by rw[yF l];rfl
 obtain⟨C,E,D,rfl⟩:∃ m q a,v= .slice m q a:=by
  rcases f.2 with ⟨y,_⟩ |⟨g,a,F,y,_⟩
  ·exact⟨_,_,_,y⟩
  ·exact⟨_,_,_,y⟩
 have u:B<=z.heap.size:=by have:=x.size;omega
 have J:=zb (Tryz.utf8_AppendRune_plain B (.slice C E D) bs.length bs r hr0 hr1 z f hlen u);go_wp2_with fail;refine (uh J).mono ?_;rintro e s ⟨P,rfl,i,o,d⟩;have H:b<z.heap.size:=by
  rcases Nat.lt_or_ge b z.heap.size with G | G
  ·exact G
  ·simp[Array.getElem?_eq_none G]at l
 have j:s.heap[b]?=some (.cells #[.pointer (some ⟨b,0,none⟩),.slice C E D] 192 (0,0)):=by
  rw[d.block b (by simp;omega) (fun e=>I e.symm),Lib.alloc_old z _ b H];exact l
 have Q:s.cell? ⟨b,0,none⟩=some (.pointer (some ⟨b,0,none⟩)):=by rw[yF j];rfl
 have R:s.cell? ⟨b,1,none⟩=some (.slice C E D):=by rw[yF j];rfl
 have U:s.frozen? ⟨b,1,none⟩=false:=yI j 1;obtain⟨m,q,a,rfl⟩:∃ m q a,P= .slice m q a:=by
  rcases i.2 with ⟨y,_⟩ |⟨g,a,F,y,_⟩
  ·exact⟨_,_,_,y⟩
  ·exact⟨_,_,_,y⟩
 have L:Hid (Lib.BuilderAt 192 5 B b (.pointer (some ⟨b,0,none⟩)) (bs++Lib.runeCells r) (s.setCell ⟨b,1,none⟩ (.slice m q a))):=Lib.BuilderAt.put (T:=192) (e:=5) K j (bs':=bs++Lib.runeCells r) (by simpa using i) (by decide);have M:Hid (Below B w (s.setCell ⟨b,1,none⟩ (.slice m q a))):=((x.alloc u _).grown d (by simp;omega) (fun k hk=>(f.lt k hk).1)).setCell (p:=⟨b,1,none⟩) K _;have N:Hid (Lib.OthersKept 5 (some b) w (s.setCell ⟨b,1,none⟩ (.slice m q a))):=((A.alloc o).grown d (Ov (f.alloc _))).setCell ⟨b,1,none⟩ rfl _;have S:(s.setCell ⟨b,1,none⟩ (.slice m q a)).cell? ⟨b,1,none⟩=some (.slice m q a):=by
  have:=heap_setCell_same s b 1 #[.pointer (some ⟨b,0,none⟩),.slice C E D] 192 (.slice m q a) j;rw[yF this];rfl
 clear J i d f l j x A;go_wp2;go_ret2;exact⟨⟨_,rfl⟩,uh L,uh M,uh N⟩
def pc(r:Nat):List UInt8:=if r<128 then qB (UInt8.ofNat r)else Lib.encodeRune r
theorem SG(r:Nat):(pc r).length<=6:=by
 unfold pc;split
 ·exact Ob _
 ·have:=Lib.encodeRuneZ_length r;simp[Lib.encodeRune];omega
theorem Y6{r:Nat}(h:r<128):pc r=qB (UInt8.ofNat r):=by unfold pc;rw[yg h]
theorem J5{r:Nat}(h:r<256):(UInt8.ofNat r).toNat=r:=by rw[UInt8.toNat_ofNat'];omega
abbrev QT(b:Nat)(w w':Wo):Prop:=Lib.OthersKept 5 (some b) w w'
theorem EV:∀ r:Fin 32,bits BinOp.and IntKind.i32 ((r.val:Nat):Int) 15=((r.val % 16:Nat):Int):=by decide +kernel
theorem EW{r:Nat}(h:r<32):bits BinOp.and IntKind.i32 (r:Int) 15=((r % 16:Nat):Int):=EV ⟨r,h⟩
theorem EX(B b:Nat)(l:List UInt8)(r:Nat)(w:Wo)(h:zS B b l w)(hB:B<=w.heap.size)(hr:r<=1114111)(hl:l.length<=100000000):
  Calls prog 328 #[.pointer (some ⟨b,0,none⟩),.int .i32 r] w fun e w'=>e= .returned (.tuple #[])/\zS B b (l++pc r) w'/\Below B w w'/\QT b w w':=by
 have hq:(Lib.byteCells l).length<=100000000:=by rw[yK];exact hl
 by_cases E:32<=r
 ·by_cases e:r=34
  ·have f:Hid (pc r=[92,34]):=by
    show _=_;rw[Y6 (by omega),WX (by rw[J5 (by omega)];omega)];subst e;rfl
   have j:((r:Int) ==34)=true:=by rw[yC];omega
   clear e;go_in;go_wp2_with fail;refine (YI B b _ _ _ h (by show _+2<=_;omega) hB).mono ?_;rintro e s ⟨rfl,d,g,i⟩;have a:=zS.str (m:=[92,34]) rfl d;clear d;go_wp2;go_end0;exact⟨rfl,by rw[uh f];exact a,g,i⟩
  ·by_cases C:r=92
   ·have e:=C;clear C;have f:Hid (pc r=[92,92]):=by
     show _=_;rw[Y6 (by omega),WX (by rw[J5 (by omega)];omega)];subst e;rfl
    have j:((r:Int) ==34)=false:=by rw[yd];omega
    have k:((r:Int) ==92)=true:=by rw[yC];omega
    clear e;go_in;go_wp2_with fail;refine (YI B b _ _ _ h (by show _+2<=_;omega) hB).mono ?_;rintro e s ⟨rfl,d,g,i⟩;have a:=zS.str (m:=[92,92]) rfl d;clear d;go_wp2;go_end0;exact⟨rfl,by rw[uh f];exact a,g,i⟩
   ·have f:Hid (Lib.runeCells r=Lib.byteCells (pc r)):=by
     show _=_
     by_cases N:r<128
     ·rw[Y6 N,Xk (by rw[J5 (by omega)];exact e) (by rw[J5 (by omega)];exact C) (by rw[J5 (by omega)];exact E)];unfold Lib.runeCells;rw[Lib.encodeRuneZ_one (by omega) (by omega)];simp only[yi,List.map_nil,Lib.byteCells,J5 (show r<256 by omega)]
     ·unfold pc;rw[yf N,Lib.byteCells_encodeRune]
    have j:((r:Int) ==34)=false:=by rw[yd];omega
    have k:((r:Int) ==92)=false:=by rw[yd];omega
    have v:((r:Int) ==8)=false:=by rw[yd];omega
    have A:((r:Int) ==9)=false:=by rw[yd];omega
    have p:((r:Int) ==10)=false:=by rw[yd];omega
    have u:((r:Int) ==12)=false:=by rw[yd];omega
    have z:((r:Int) ==13)=false:=by rw[yd];omega
    have J:(32:Int)<=(r:Int):=by omega
    clear e C;go_in;go_wp2_with fail;refine (SF B b _ (r:Int) (by omega) (by omega) _ h (by omega) hB).mono ?_;rintro e s ⟨⟨n,rfl⟩,d,g,i⟩;have a:=zS.cells (uh f) d;clear d;go_wp2;try simp only[Exit.inBlock,Exit.then]
    refine bodyPost_ret (results_none rfl _ _ _) rfl ?_;exact⟨rfl,a,g,i⟩
 ·by_cases F:WY r
  ·have f:Hid (pc r=[92,117,48,48,Jm.getD (r / 16) 0,Jm.getD (r % 16) 0]):=by
    show _=_;rw[Y6 (by omega),Oi (by rw[J5 (by omega)];exact F),J5 (by omega)]
   obtain⟨W,X,Y,Z,g5,g6⟩:=F;have j:((r:Int) ==34)=false:=by rw[yd];omega
   have k:((r:Int) ==92)=false:=by rw[yd];omega
   have v:((r:Int) ==8)=false:=by rw[yd];omega
   have A:((r:Int) ==9)=false:=by rw[yd];omega
   have p:((r:Int) ==10)=false:=by rw[yd];omega
   have u:((r:Int) ==12)=false:=by rw[yd];omega
   have z:((r:Int) ==13)=false:=by rw[yd];omega
   have J:¬ (32:Int)<=(r:Int):=by omega
   obtain⟨q,o⟩:∃ q:Nat,q=r % 16:=⟨_,rfl⟩;have O:bits BinOp.and IntKind.i32 (r:Int) 15=(q:Int):=by rw[o];exact EW (by omega)
   have y:q<16:=by omega
   have G:(q:Int)<16:=by omega
   have S:(0:Int)<=(q:Int):=by omega
   rw[← o]at f;clear o;go_in;go_wp2_with fail;refine (YI B b _ _ _ h (by show _+4<=_;omega) hB).mono ?_;rintro e s ⟨rfl,d,g,i⟩;have a:=zS.str (m:=[92,117,48,48]) rfl d;have H:B<=s.heap.size:=by have:=g.size;omega
   clear d;go_wp2_with fail;refine (W6 B b _ _ _ a (by rw[yK];simp;omega) H).mono ?_;rintro e V ⟨rfl,L,K,T⟩;have x:=zS.byte (c:=Jm.getD (r / 16) 0) (congrArg (fun c:UInt8=>(c.toNat:Int)) (Xl (r / 16) (by omega))) L;have I:B<=V.heap.size:=by have:=K.size;omega
   clear L a;go_wp2_with fail;refine (W6 B b _ _ _ x (by rw[yK];simp;omega) I).mono ?_;rintro e w3 ⟨rfl,M,R,U⟩;have D:=zS.byte (c:=Jm.getD q 0) (congrArg (fun c:UInt8=>(c.toNat:Int)) (Xl q y)) M;have P:=(g.trans K).trans R;have Q:=(i.trans T).trans U;clear M x;go_wp2;go_end0;exact⟨rfl,by rw[uh f];simpa using D,P,Q⟩
  ·rcases (show r=8∨r=9∨r=10∨r=12∨r=13 from by unfold WY at F;omega)with e | e | e | e | e
   ·have f:Hid (pc r=[92,98]):=by
     show _=_;rw[Y6 (by omega),Od (by rw[J5 (by omega)];omega)]
    have j:((r:Int) ==34)=false:=by rw[yd];omega
    have k:((r:Int) ==92)=false:=by rw[yd];omega
    have v:((r:Int) ==8)=true:=by rw[yC];omega
    clear e;go_in;go_wp2_with fail;refine (YI B b _ _ _ h (by show _+2<=_;omega) hB).mono ?_;rintro e s ⟨rfl,d,g,i⟩;have a:=zS.str (m:=[92,98]) rfl d;clear d;go_wp2;go_end0;exact⟨rfl,by rw[uh f];exact a,g,i⟩
   ·have f:Hid (pc r=[92,116]):=by
     show _=_;rw[Y6 (by omega),Oe (by rw[J5 (by omega)];omega)]
    have j:((r:Int) ==34)=false:=by rw[yd];omega
    have k:((r:Int) ==92)=false:=by rw[yd];omega
    have v:((r:Int) ==8)=false:=by rw[yd];omega
    have A:((r:Int) ==9)=true:=by rw[yC];omega
    clear e;go_in;go_wp2_with fail;refine (YI B b _ _ _ h (by show _+2<=_;omega) hB).mono ?_;rintro e s ⟨rfl,d,g,i⟩;have a:=zS.str (m:=[92,116]) rfl d;clear d;go_wp2;go_end0;exact⟨rfl,by rw[uh f];exact a,g,i⟩
   ·have f:Hid (pc r=[92,110]):=by
     show _=_;rw[Y6 (by omega),Of (by rw[J5 (by omega)];omega)]
    have j:((r:Int) ==34)=false:=by rw[yd];omega
    have k:((r:Int) ==92)=false:=by rw[yd];omega
    have v:((r:Int) ==8)=false:=by rw[yd];omega
    have A:((r:Int) ==9)=false:=by rw[yd];omega
    have p:((r:Int) ==10)=true:=by rw[yC];omega
    clear e;go_in;go_wp2_with fail;refine (YI B b _ _ _ h (by show _+2<=_;omega) hB).mono ?_;rintro e s ⟨rfl,d,g,i⟩;have a:=zS.str (m:=[92,110]) rfl d;clear d;go_wp2;go_end0;exact⟨rfl,by rw[uh f];exact a,g,i⟩
   ·have f:Hid (pc r=[92,102]):=by
     show _=_;rw[Y6 (by omega),Og (by rw[J5 (by omega)];omega)]
    have j:((r:Int) ==34)=false:=by rw[yd];omega
    have k:((r:Int) ==92)=false:=by rw[yd];omega
    have v:((r:Int) ==8)=false:=by rw[yd];omega
    have A:((r:Int) ==9)=false:=by rw[yd];omega
    have p:((r:Int) ==10)=false:=by rw[yd];omega
    have u:((r:Int) ==12)=true:=by rw[yC];omega
    clear e;go_in;go_wp2_with fail;refine (YI B b _ _ _ h (by show _+2<=_;omega) hB).mono ?_;rintro e s ⟨rfl,d,g,i⟩;have a:=zS.str (m:=[92,102]) rfl d;clear d;go_wp2;go_end0;exact⟨rfl,by rw[uh f];exact a,g,i⟩
   ·have f:Hid (pc r=[92,114]):=by
     show _=_;rw[Y6 (by omega),Oh (by rw[J5 (by omega)];omega)]
    have j:((r:Int) ==34)=false:=by rw[yd];omega
    have k:((r:Int) ==92)=false:=by rw[yd];omega
    have v:((r:Int) ==8)=false:=by rw[yd];omega
    have A:((r:Int) ==9)=false:=by rw[yd];omega
    have p:((r:Int) ==10)=false:=by rw[yd];omega
    have u:((r:Int) ==12)=false:=by rw[yd];omega
    have z:((r:Int) ==13)=true:=by rw[yC];omega
    clear e;go_in;go_wp2_with fail;refine (YI B b _ _ _ h (by show _+2<=_;omega) hB).mono ?_;rintro e s ⟨rfl,d,g,i⟩;have a:=zS.str (m:=[92,114]) rfl d;clear d;go_wp2;go_end0;exact⟨rfl,by rw[uh f];exact a,g,i⟩
theorem SH{T e:TypeId}{B b:Nat}{p:Value}{bs:List Value}{w:Wo}(h:Lib.BuilderAt T e B b p bs w){k:Nat}{s:Bs}{pos:Nat}(hk:w.heap[k]?=some (.stringIter s pos))(pos':Nat):Lib.BuilderAt T e B b p bs (w.iterAt k s pos'):=by
 obtain⟨u,v,l,a,r⟩:=h;have o:b≠k:=by
  intro j;rw[j,hk]at l
  cases l
 refine⟨u,v,(Lib.iterAt_other w k b s pos' o).trans l,⟨a.1,?_⟩,r⟩;rcases a.2 with x |⟨g,f,i,y,m,n,d⟩
 ·exact .inl x
 ·have q:g≠k:=by
   intro j;rw[j,hk]at n
   cases n
  exact .inr ⟨g,f,i,y,m,(Lib.iterAt_other w k g s pos' q).trans n,d⟩
theorem zS.iterAt{B b:Nat}{l:List UInt8}{w:Wo}(h:zS B b l w){k:Nat}{s:Bs}{pos:Nat}(hk:w.heap[k]?=some (.stringIter s pos))(pos':Nat):zS B b l (w.iterAt k s pos'):=
 h.elim (fun x=>.inl (SH x hk pos')) (fun x=>.inr (SH x hk pos'))
theorem zS.alloc{B b:Nat}{l:List UInt8}{w:Wo}(h:zS B b l w)(o:Obj):zS B b l (w.alloc o):=by
 have g:∀ p,Lib.BuilderAt 192 5 B b p (Lib.byteCells l) w->Lib.BuilderAt 192 5 B b p (Lib.byteCells l) (w.alloc o):=by
  rintro p ⟨i,v,f,a,d⟩;exact⟨i,v,(Lib.alloc_old w o b (yB.1 f).1).trans f,a.alloc o,d⟩
 exact h.elim (fun x=>.inl (g _ x)) (fun x=>.inr (g _ x))
theorem zS.lt{B b:Nat}{l:List UInt8}{w:Wo}(h:zS B b l w):b<w.heap.size:=h.elim (fun x=>x.lt) (fun x=>x.lt)
def J6(s:Bs):Nat->Nat->List UInt8
 | 0,_=>[]
 | f+1,pos=>if pos<s.size then pc (Utf8.decode s pos).1++J6 s f (pos+(Utf8.decode s pos).2)else []
def rs(s:Bs):List UInt8:=J6 s s.size 0
theorem EY(s:Bs)(f pos:Nat)(h:¬ pos<s.size):J6 s f pos=[]:=by
 cases f with
 | zero=>rfl
 | succ f=>simp[J6,h]
theorem EZ(s:Bs)(pos:Nat):(Utf8.decode s pos).1<=1114111:=by
 rw[Yk];exact Lib.decodeN_rune_le _ _ _ _ _ (Z7 s pos)
theorem E2{b k:Nat}{a w:Wo}(h:QT b a w)(hk:a.heap.size<=k)(s:Bs)(pos:Nat):QT b a (w.iterAt k s pos):=fun i o hi hb ho=>by
 have f:i<a.heap.size:=(yB.1 hi).1;have d:=Lib.below_iterAt (yH k w) (k:=k) (ye _) s pos;rw[d.block i (by omega)];exact h i o hi hb ho
theorem OH(B b:Nat)(l:List UInt8)(s:Bs)(w:Wo)(h:zS B b l w)(hB:B<=w.heap.size)(hl:l.length<=10000000)(hs:s.size<=10000000):
  Calls prog 325 #[.string s,.pointer (some ⟨b,0,none⟩)] w fun e w'=>e= .returned (.tuple #[])/\zS B b (l++34 ::(rs s++[34])) w'/\Below B w w'/\QT b w w':=by
 have hq:(Lib.byteCells l).length<=10000000:=by rw[yK];exact hl
 have V:B<=b:=h.elim (fun x=>x.1) (fun x=>x.1);have Q:=h.lt;go_in;go_wp2_with fail;refine (W6 B b _ 34 _ h (by omega) hB).mono ?_;rintro e j ⟨rfl,r,O,R⟩;have Z:=O.size;have M:Hid (zS B b (l++[34]) (j.alloc (.stringIter s 0))):=(zS.byte (c:=34) rfl r).alloc _;have J:b<j.heap.size:=Lib.BuilderAt.lt r;have N:Hid (QT b w (j.alloc (.stringIter s 0))):=Lib.OthersKept.alloc R _;clear r R h;go_wp2;go_loopw [] (fun wr=>∃ (a d:Nat) (i:List UInt8),zS B b i wr/\wr.heap[j.heap.size]?=some (.stringIter s a)/\Below B w wr/\QT b w wr/\i++J6 s d a=l++34 :: rs s/\s.size<=a+d/\i.length<=l.length+1+6*a) (fun wr=>s.size - wr.iterPos j.heap.size)
 case atStart=>
  refine⟨0,s.size,l++[34],uh M,?_,O.alloc (by omega) _,uh N,by simp[rs],by omega,by simp⟩;exact yG j _
 case round=>
  obtain⟨a,d,i,I,m,A,C,g,X,U⟩:=hrel;have aa:j.heap.size<wr.heap.size:=(yB.1 m).1;clear M N;have v:=zb C;clear C;by_cases D:a<s.size
  ·have L:∀ ty,(Instr.next (.pointer (some ⟨j.heap.size,0,none⟩)) true ty).run prog wr=_:=fun ty=>Lib.run_next_any_at wr j.heap.size s a ty m D;have ab:=Lib.decode_width_pos s a D;have K:=EZ s a;have Y:=SG (Utf8.decode s a).1;have z:=I.iterAt m (a+(Utf8.decode s a).2);have p:=Lib.iterAt_heap wr j.heap.size s a (a+(Utf8.decode s a).2) m;have o:=Lib.below_iterAt A (k:=j.heap.size) (by omega) s (a+(Utf8.decode s a).2);have q:B<=(wr.iterAt j.heap.size s (a+(Utf8.decode s a).2)).heap.size:=by rw[Lib.iterAt_size];omega
   obtain⟨f,rfl⟩:∃ f,d=f+1:=⟨d - 1,by omega⟩;have F:Hid ((i++pc (Utf8.decode s a).1)++J6 s f (a+(Utf8.decode s a).2)=l++34 :: rs s):=by
    show _=_;rw[← g];simp[J6,D]
   have S:=zb (EX B b i (Utf8.decode s a).1 (wr.iterAt j.heap.size s (a+(Utf8.decode s a).2)) z q K (by omega));have n:=zb p;have G:=zb m;have u:=zb o;clear g I z p o q;go_wp2_with fail;refine (uh S).mono ?_;rintro e T ⟨rfl,r,H,E⟩;go_wp2;go_roundw
   case rel=>exact⟨a+(Utf8.decode s a).2,f,i++pc (Utf8.decode s a).1,r,E.iter (uh n) (by omega),(uh u).trans H,(E2 (uh v) (by omega) _ _).trans E,uh F,by omega,by rw[yh];omega⟩
   case measure=>
    simp only[World.iterPos,E.iter (uh n) (by omega),uh G];omega
  ·have L:∀ ty,(Instr.next (.pointer (some ⟨j.heap.size,0,none⟩)) true ty).run prog wr=_:=fun ty=>Lib.run_next_end_at wr j.heap.size s a ty m D;rw[EY s d a D,yS]at g;have F:=zb g;have P:(Lib.byteCells i).length<=100000000:=by
    rw[yK,g];have W:∀ f a,(J6 s f a).length<=6*f:=by
     intro f;induction f with
     | zero=>intro a;simp[J6]
     | succ f ih=>
      intro a;rw[J6];split
      ·rw[yh];have:=ih (a+(Utf8.decode s a).2);have:=SG (Utf8.decode s a).1;omega
      ·simp
    have:=W s.size 0;simp[rs];omega
   clear g;go_wp2_with fail;refine (W6 B b _ 34 _ I (by omega) (by omega)).mono ?_;rintro e T ⟨rfl,r,H,E⟩;have y:=zS.byte (c:=34) rfl r;go_wp2;go_end0;refine⟨rfl,?_,A.trans H,(uh v).trans E⟩;rw[uh F]at y;simpa using y
theorem E4(s:Bs):zz s.data.toList=s:=by obtain⟨⟨l⟩⟩:=s;rfl
def Vx(ss:List Bs):Prop:=ss.length<=1048576/\∀ s∈ss,s.size<=1048576
theorem Vx.at{ss:List Bs}(h:Vx ss){j:Nat}(hj:j<ss.length):(ss.getD j ByteArray.empty).size<=1048576:=h.2 _ (by simp[List.getD,hj])
def Jo(ss:List Bs):List (List UInt8):=(ss.filter fun s=>(zG s.data.toList).isSome).map (·.data.toList)
theorem E5{ss:List Bs}{k:Nat}(h:k<ss.length):Jo (ss.take (k+1))=Jo (ss.take k)++(if (zG (ss.getD k ByteArray.empty).data.toList).isSome then [(ss.getD k ByteArray.empty).data.toList]else []):=by
 rw[UM h];generalize ss.getD k ByteArray.empty=s;unfold Jo;rw[List.filter_append,yw];congr 1
 cases hp:(zG s.data.toList).isSome<;>simp[hp]
theorem OI(ss:List Bs):(Jo ss).length<=ss.length:=by
 unfold Jo;rw[yl];exact List.length_filter_le _ _
theorem SI(s:Bs)(w:Wo)(hML:ML w)(hsz:s.size<=1048576):
  Calls prog 101 #[.string s] w fun e w'=>e= .returned (.bool (zG s.data.toList).isSome)/\Bw w w':=by
 have a:=zb (OG s w hML hsz);clear hML;generalize (zG s.data.toList).isSome=z at *;go_in;go_wp2_with fail;refine (uh a).mono ?_;rintro e h ⟨g,rfl,f,b⟩;have d:=zb b;clear a f b;go_wp2;go_ret;exact⟨rfl,uh d⟩
theorem SJ(xa:Option Addr)(xb xo xc:Nat)(ss:List Bs)(w:Wo)(hML:ML w)(h:SS w xa xb xo ss)(hm:Vx ss):
  Calls prog 143 #[.slice xa ss.length xc] w fun e w'=>∃ v,e= .returned v/\OT w' w.heap.size v (Jo ss)/\Bw w w':=by
 obtain⟨F,E,l,m,n⟩:=info_parts G1;have f:=h.ad;have P:=zb h.cell;clear h;have L:ss.length<=1048576:=hm.1;have R:=zb hm;have Q:=zb hML;clear hm hML;go_in;go_wp2;go_loopw [3,8] (fun v i wr=>∃ k:Nat,k<=ss.length/\i= .int .i64 k/\OT wr w.heap.size v (Jo (ss.take k))/\Bw w wr) (fun _ i _=>ss.length - (intOf i).toNat)
 case atStart=>exact⟨0,yt _,rfl,World.ownsRow_nil _ _ _ _,yH _ _⟩
 case round=>
  obtain⟨k,K,rfl,b,u⟩:=hrel;by_cases q:k<ss.length
  ·have x:=uh P k q;have J:xb<w.heap.size:=yJ _ _ x;obtain rfl:=f (by omega);have H:(ss.getD k ByteArray.empty).size<=1048576:=(uh R).at q;have z:=E5 q;have G:=OI (ss.take k);have y:(ss.take k).length<=k:=by rw[ym];omega
   generalize hs:ss.getD k ByteArray.empty=s at *;have j:=zb z;have V:wr.cell? ⟨xb,xo+k,none⟩=some (.string s):=(u.cell (p:=⟨xb,xo+k,none⟩) J).trans x;have r:=zb (SI s wr ((uh Q).below u) H);generalize Jo (ss.take k)=p at *;have T:p.length<=1048576:=by omega
   have D:=zb u;have M:=u.size;clear f z hs G y u
   cases hp:(zG s.data.toList).isSome with
   | false=>
    rw[hp]at r j;clear hp;go_wp2_with fail;refine (uh r).mono ?_;rintro e B ⟨rfl,o⟩;have C:=zh (uh D) o;have a:=ZB b o;clear b o r D;go_wp2;go_roundw
    case rel=>exact⟨k+1,by omega,by go_num,by rw[uh j];simpa using a,C⟩
    case measure=>simp[intOf];omega
   | true=>
    rw[hp]at r j;clear hp;go_wp2_with fail;refine (uh r).mono ?_;rintro e B ⟨rfl,o⟩;have C:=zh (uh D) o;have I:=C.size;have a:=ZB b o;have S:=zb (E4 s);clear b o r D;go_wp2_with (at_builtin;first |(refine wpList_append_own _ rfl (.tmp 15) (.tmp 17) 55 rfl w.heap.size 9 F (.string ByteArray.empty) 1 16 underlying55 E l m n rfl (by decide) _ _ _ rfl (a.alloc _) ⟨B.heap.size,0,none⟩ 1 1 [.string s] rfl rfl (QD _ _ _) (Vv _) (by unfold maxLen;omega) (by omega) (by simp;omega) ?_) |(refine wpList_append_own _ rfl (.tmp 14) (.tmp 16) 55 rfl w.heap.size 9 F (.string ByteArray.empty) 1 16 underlying55 E l m n rfl (by decide) _ _ _ rfl (a.alloc _) ⟨B.heap.size,0,none⟩ 1 1 [.string s] rfl rfl (QD _ _ _) (Vv _) (by unfold maxLen;omega) (by omega) (by simp;omega) ?_) |(refine wpList_append_own _ rfl (.tmp 13) (.tmp 15) 55 rfl w.heap.size 9 F (.string ByteArray.empty) 1 16 underlying55 E l m n rfl (by decide) _ _ _ rfl (a.alloc _) ⟨B.heap.size,0,none⟩ 1 1 [.string s] rfl rfl (QD _ _ _) (Vv _) (by unfold maxLen;omega) (by omega) (by simp;omega) ?_) |(refine wpList_append_own _ rfl (.tmp 16) (.tmp 18) 55 rfl w.heap.size 9 F (.string ByteArray.empty) 1 16 underlying55 E l m n rfl (by decide) _ _ _ rfl (a.alloc _) ⟨B.heap.size,0,none⟩ 1 1 [.string s] rfl rfl (QD _ _ _) (Vv _) (by unfold maxLen;omega) (by omega) (by simp;omega) ?_));intro U N g d _;have O:Bw w N:=(C.alloc I _).grown d (by simp;omega) (fun k K=>(a.lt k K).1);have A:OT N w.heap.size U (p++[s.data.toList]):=OT.step (t:=s.data.toList) (by rw[show Qp s.data.toList= .string s from congrArg Value.string (uh S)];exact g);clear g d a;go_wp2;go_roundw
    case rel=>exact⟨k+1,by omega,by go_num,by rw[uh j];exact A,O⟩
    case measure=>simp[intOf];omega
  ·have e:ss.take k=ss:=yq (by omega);rw[e]at b;clear f;go_wp2;go_ret;exact⟨_,rfl,b,u⟩
theorem SK(x y:Bs)(w:Wo):
  Calls prog 170 #[.string x,.string y] w fun e w'=>e= .returned (.bool (JE x.data.toList y.data.toList))/\w=w':=by
 have d:=zb (Tryz.strings_CutPrefix y x w);have g:Hid (JE x.data.toList y.data.toList=(Lib.hasPrefix y.data.toList x.data.toList && (match Lib.trimPrefix y.data.toList x.data.toList with | []=>true | c :: _=>c.toNat ==47))):=rfl;generalize Lib.hasPrefix y.data.toList x.data.toList=b at *;generalize Lib.trimPrefix y.data.toList x.data.toList=r at *;generalize JE x.data.toList y.data.toList=z at *
 cases b with
 | false=>
  go_in;go_wp2_with fail;refine (uh d).mono ?_;rintro e j ⟨rfl,rfl⟩;clear d;go_wp2;go_ret;exact⟨by rw[uh g];rfl,rfl⟩
 | true=>
  cases r with
  | nil=>
   go_in;go_wp2_with fail;refine (uh d).mono ?_;rintro e j ⟨rfl,rfl⟩;clear d;go_wp2;go_ret;exact⟨by rw[uh g];rfl,rfl⟩
  | cons c r=>
   have i:(⟨(c :: r).toArray⟩:Bs).size=r.length+1:=by show (c :: r).toArray.size=_;simp
   have k:(⟨(c :: r).toArray⟩:Bs).toList.isEmpty=false:=by rw[Lib.toList_data];rfl
   have m:((⟨(c :: r).toArray⟩:Bs)[0]'(by rw[i];omega))=c:=rfl;have h:Hid (z=(c.toNat ==47)):=zb (by have:=uh g;simpa using this);clear g;generalize (⟨(c :: r).toArray⟩:Bs)=q at *;by_cases a:(c.toNat:Int)=47
   ·have l:((c.toNat:Int) ==47)=true:=by simpa using a
    have f:Hid (z=true):=zb (by rw[uh h];simp;omega);clear h a;go_in;go_wp2_with fail;refine (uh d).mono ?_;rintro e j ⟨rfl,rfl⟩;clear d;go_wp2;go_ret;exact⟨by rw[uh f];rfl,rfl⟩
   ·have l:((c.toNat:Int) ==47)=false:=by simpa using a
    have f:Hid (z=false):=zb (by rw[uh h];simp;omega);clear h a;go_in;go_wp2_with fail;refine (uh d).mono ?_;rintro e j ⟨rfl,rfl⟩;clear d;go_wp2;go_ret;exact⟨by rw[uh f];rfl,rfl⟩
def Ym(x y:List UInt8):Bool:=JE x y || JE y x
theorem E9(x y:Bs)(w:Wo):
  Calls prog 144 #[.string x,.string y] w fun e w'=>e= .returned (.bool (Ym x.data.toList y.data.toList))/\w=w':=by
 have d:=zb (SK x y w);have f:=zb (SK y x w);have g:Hid (Ym x.data.toList y.data.toList=(JE x.data.toList y.data.toList || JE y.data.toList x.data.toList)):=rfl;generalize JE x.data.toList y.data.toList=a at *;generalize JE y.data.toList x.data.toList=b at *
 cases a with
 | true=>
  go_in;go_wp2_with fail;refine (uh d).mono ?_;rintro e h ⟨rfl,rfl⟩;clear d f;go_wp2;go_ret;exact⟨by rw[uh g];rfl,rfl⟩
 | false=>
  go_in;go_wp2_with fail;refine (uh d).mono ?_;rintro e h ⟨rfl,rfl⟩;clear d;go_wp2_with fail;refine (uh f).mono ?_;rintro e h ⟨rfl,rfl⟩;clear f;go_wp2;go_ret;exact⟨by rw[uh g];rfl,rfl⟩
def Gi(xs ys:List (List UInt8)):Bool:=xs.any fun x=>ys.any fun y=>Ym x y
theorem Aa(a b:List Bs):Gi (Jo a) (Jo b)=Gh (a.map (·.data.toList)) (b.map (·.data.toList)):=by
 unfold Gi Gh Jo;rw[List.any_map,List.any_filter,List.any_map];congr 1;funext x;simp only[Function.comp_apply];rw[List.any_map,List.any_filter,List.any_map]
 cases hx:(zG x.data.toList).isSome with
 | false=>
  have h:∀ y,Yl x.data.toList y=false:=fun y=>by unfold Yl;rw[hx];rfl
  simp[Function.comp_def,h]
 | true=>
  rw[Bool.true_and];congr 1;funext y;simp[Yl,Ym,hx]
def qD(a b:List Bs):Bool:=if a.length<=1000/\b.length<=1000 then Gh (a.map (·.data.toList)) (b.map (·.data.toList))else false
theorem SL{l:List (List UInt8)}{k:Nat}(h:k<l.length):l.getD k []∈l:=by simp[List.getD,h]
theorem Ab(xa ya:Option Addr)(xb xo xc yb yo yc:Nat)(a b:List Bs)(w:Wo)(hML:ML w)(h:SS w xa xb xo a)(k:SS w ya yb yo b)(ha:Vx a)(hb:Vx b):
  Calls prog 113 #[.slice xa a.length xc,.slice ya b.length yc] w fun e w'=>e= .returned (.bool (qD a b))/\Bw w w':=by
 by_cases G:a.length<=1000
 ·by_cases H:b.length<=1000
  ·have z:Hid (qD a b=Gi (Jo a) (Jo b)):=by show _=_;rw[Aa];unfold qD;rw[yg ⟨G,H⟩]
   have Y:=zb (SJ xa xb xo xc a w hML h ha);have Z:Hid (∀ w',Bw w w'->Calls prog 143 #[.slice ya b.length yc] w' fun e r=>∃ v,e= .returned v/\OT r w'.heap.size v (Jo b)/\Bw w' r):=fun w' h'=>SJ ya yb yo yc b w' (hML.below h') (k.below h') hb;have hl1:=OI a;have hl2:=OI b;clear h k hML;generalize Jo a=l at *;generalize Jo b=d at *;go_in;go_wp2_with fail;refine (uh Y).mono ?_;rintro e w1 ⟨v1,rfl,o1,O⟩;have A:=zb (uh Z w1 O);clear Y Z;go_wp2_with fail;refine (uh A).mono ?_;rintro e r ⟨v2,rfl,o2,P⟩;have K:=ZB o1 P;have V:=zh O P;clear A o1 O P;obtain⟨x1,g1,c1,rfl,T,_⟩:=OT.shape K;obtain⟨x2,g2,c2,rfl,U,_⟩:=OT.shape o2;have M:=T.ad;have E:=U.ad;have W:=zb T.cell;have X:=zb U.cell;simp only[yl]at M E W X;clear T U K o2;go_wp2;go_loopw [25] (fun i wr=>∃ n:Nat,n<=l.length/\i= .int .i64 n/\(∀ j,j<n->∀ m,m<d.length->Ym (l.getD j []) (d.getD m [])=false)/\r=wr) (fun i _=>l.length - (intOf i).toNat)
   case atStart=>exact⟨0,yt _,rfl,fun j F=>by omega,rfl⟩
   case round=>
    obtain⟨n,hn,rfl,J,rfl⟩:=hrel;have B:=zb J;clear J;by_cases u:n<l.length
    ·have R:=uh W n u;rw[Xo u,Nat.zero_add]at R;obtain rfl:=M (by omega);have aa:(n:Int)<(l.length:Int):=by omega
     clear M;have N:Hid (∀ m,m<d.length->Ym (l.getD n []) (d.getD m [])=true->Gi l d=true):=fun m I e=>by
      unfold Gi;rw[List.any_eq_true];refine⟨_,SL u,?_⟩;rw[List.any_eq_true];exact⟨_,SL I,e⟩
     generalize hp:l.getD n []=p at *;have HP:=zb hp;clear hp;go_wp2;go_loopw [31] (fun i wr=>∃ m:Nat,m<=d.length/\i= .int .i64 m/\(∀ j,j<m->Ym p (d.getD j [])=false)/\r=wr) (fun i _=>d.length - (intOf i).toNat)
     case atStart=>exact⟨0,yt _,rfl,fun j F=>by omega,rfl⟩
     case round=>
      obtain⟨m,I,rfl,o,rfl⟩:=hrel;have L:=zb o;clear o;by_cases g:m<d.length
      ·have S:=uh X m g;rw[Xo g,Nat.zero_add]at S;obtain rfl:=E (by omega);have ab:(m:Int)<(d.length:Int):=by omega
       have s:=zb (uh N m g);have f:Hid (Ym p (d.getD m [])=false->∀ j,j<m+1->Ym p (d.getD j [])=false):=fun e j F=>by
        by_cases Q:j=m
        ·subst Q;exact e
        ·exact uh L j (by omega)
       clear E L N B;generalize d.getD m []=q at *;have D:Hid (Calls prog 144 #[.string (zz p),.string (zz q)] r (Rk (.bool (Ym p q)) r)):=zb (by
        have:=E9 (zz p) (zz q) r;simpa [zz]using this)
       cases h1:Ym p q with
       | true=>
        rw[h1]at D;have C:Hid (Gi l d=true):=uh s h1;clear h1 s f;go_wp2_with fail;refine (uh D).mono ?_;rintro e w3 ⟨rfl,rfl⟩;go_wp2;go_ret;exact⟨by rw[uh z,uh C];rfl,V⟩
       | false=>
        rw[h1]at D;have C:=zb (uh f h1);clear h1 s f;go_wp2_with fail;refine (uh D).mono ?_;rintro e w3 ⟨rfl,rfl⟩;clear D;go_wp2;go_roundw
        case rel=>exact⟨m+1,by omega,by go_num,uh C,trivial⟩
        case measure=>simp[intOf];omega
      ·have f:Hid (∀ j,j<n+1->∀ m,m<d.length->Ym (l.getD j []) (d.getD m [])=false):=fun j F m' hm'=>by
        by_cases Q:j=n
        ·subst Q;rw[uh HP];exact uh L m' (by omega)
        ·exact uh B j (by omega) m' hm'
       clear E L N B;go_wp2;go_roundw
       case rel=>exact⟨n+1,by omega,by go_num,uh f,trivial⟩
       case measure=>simp[intOf];omega
    ·have C:Hid (Gi l d=false):=by
      show _=_
      unfold Gi;rw[List.any_eq_false];intro x hx;rw[Bool.not_eq_true,List.any_eq_false];intro y hy;obtain⟨j,F,rfl⟩:=List.getElem_of_mem hx;obtain⟨m,I,rfl⟩:=List.getElem_of_mem hy;have:=uh B j (by omega) m I;rw[Bool.not_eq_true];simpa [List.getD,F,I]using this
     clear M E B;go_wp2;go_ret;exact⟨by rw[uh z,uh C];rfl,V⟩
  ·have z:Hid (qD a b=false):=by show _=_;unfold qD;rw[yf (fun e=>H e.2)]
   have t1:¬ (1000:Int)<(a.length:Int):=by omega
   have t2:(1000:Int)<(b.length:Int):=by omega
   go_in;go_wp2;go_ret;exact⟨by rw[uh z];rfl,yH _ _⟩
 ·have z:Hid (qD a b=false):=by show _=_;unfold qD;rw[yf (fun e=>G e.1)]
  have t1:(1000:Int)<(a.length:Int):=by omega
  go_in;go_wp2;go_ret;exact⟨by rw[uh z];rfl,yH _ _⟩
theorem SM(o:Option (List (List UInt8))):(o.isSome=false/\o=none)∨∃ ts,o=some ts:=by cases o with
 | none=>exact .inl ⟨rfl,rfl⟩
 | some t=>exact .inr ⟨t,rfl⟩
theorem Ac(s t:Bs)(w:Wo)(hs:s.size<=1048576)(ht:t.size<=1048576):
  Calls prog 109 #[.string s,.string t] w fun e w'=>e= .returned (.int .i64 (Y4 (zG s.data.toList) (zG t.data.toList)))/\Bw w w':=by
 have z:=Xx s.data.toList;have A:=Xx t.data.toList;rw[Zn]at z A;have h:=zb (Wa s w hs);have l:Hid (∀ w,Calls prog 67 #[.string t] w fun e w'=>∃ v,e= .returned (.tuple #[v,.bool (zG t.data.toList).isSome])/\OT w' w.heap.size v ((zG t.data.toList).getD [])/\Bw w w'):=fun w=>Wa t w ht;generalize zG s.data.toList=i at *;generalize zG t.data.toList=f at *;rcases SM i with ⟨p,rfl⟩ |⟨a,rfl⟩
 ·have k:Hid (Y4 none f= -1):=rfl;clear p;simp only[Option.isSome_none,Option.getD_none]at h;go_in;go_wp2_with fail;refine (uh h).mono ?_;rintro e H ⟨q,rfl,i,o⟩;clear i;go_wp2_with fail;refine (uh l _).mono ?_;rintro e j ⟨r,rfl,f,d⟩;have u:=zh o d;clear f o d h l;go_wp2;go_ret;exact⟨by rw[uh k];rfl,u⟩
 ·rcases SM f with ⟨p,rfl⟩ |⟨b,rfl⟩
  ·have k:Hid (Y4 (some a) none= -1):=rfl;clear p;simp only[Option.isSome_none,Option.getD_none,Option.isSome_some,Option.getD_some]at h l;go_in;go_wp2_with fail;refine (uh h).mono ?_;rintro e H ⟨q,rfl,i,o⟩;clear i;go_wp2_with fail;refine (uh l _).mono ?_;rintro e j ⟨r,rfl,f,d⟩;have u:=zh o d;clear f o d h l;go_wp2;go_ret;exact⟨by rw[uh k];rfl,u⟩
  ·simp only[Option.isSome_some,Option.getD_some]at h l z A;have k:Hid (Y4 (some a) (some b)=if ZV a b=true/\ZV b a=true then 1 else if ZV a b=true then 2 else if ZV b a=true then 3 else 0):=rfl;go_in;go_wp2_with fail;refine (uh h).mono ?_;rintro e H ⟨q,rfl,i,o⟩;go_wp2_with fail;refine (uh l _).mono ?_;rintro e j ⟨r,rfl,f,d⟩;have u:=zh o d;have B:Hid (∀ n,Calls prog 94 #[q,r] (j.drewN n) fun e w'=>e= .returned (.bool (ZV a b))/\∃ n,w'=j.drewN n):=fun n=>(Oq q r a b (j.drewN n) (ZB i (d.trans (Xw _ _ _))) f (by omega) (by omega)).mono (by rintro e w' ⟨p,m,rfl⟩;exact⟨p,_,World.drewN_drewN ..⟩);have C:Hid (∀ n,Calls prog 94 #[r,q] (j.drewN n) fun e w'=>e= .returned (.bool (ZV b a))/\∃ n,w'=j.drewN n):=fun n=>(Oq r q b a (j.drewN n) f (ZB i (d.trans (Xw _ _ _))) (by omega) (by omega)).mono (by rintro e w' ⟨p,m,rfl⟩;exact⟨p,_,World.drewN_drewN ..⟩);clear i f o d h l;generalize ZV a b=x at *;generalize ZV b a=y at *;go_wp2_with fail;refine (uh B 0).mono ?_;rintro e K ⟨rfl,J,rfl⟩;have F:∀ n,Bw w (j.drewN n):=fun n=>u.trans (Xw _ _ _);have g:=zb F;clear F
   cases x<;>cases y
   ·go_wp2_with fail;refine (uh B _).mono ?_;rintro e E ⟨rfl,D,rfl⟩;go_wp2_with fail;refine (uh C _).mono ?_;rintro e I ⟨rfl,G,rfl⟩;go_wp2;go_ret;exact⟨by rw[uh k];rfl,uh g _⟩
   ·go_wp2_with fail;refine (uh B _).mono ?_;rintro e E ⟨rfl,D,rfl⟩;go_wp2_with fail;refine (uh C _).mono ?_;rintro e I ⟨rfl,G,rfl⟩;go_wp2;go_ret;exact⟨by rw[uh k];rfl,uh g _⟩
   ·go_wp2_with fail;refine (uh C _).mono ?_;rintro e E ⟨rfl,D,rfl⟩;go_wp2_with fail;refine (uh B _).mono ?_;rintro e I ⟨rfl,G,rfl⟩;go_wp2;go_ret;exact⟨by rw[uh k];rfl,uh g _⟩
   ·go_wp2_with fail;refine (uh C _).mono ?_;rintro e E ⟨rfl,D,rfl⟩;go_wp2;go_ret;exact⟨by rw[uh k];rfl,uh g _⟩
theorem Ad(xa ya:Option Addr)(xb xo xc yb yo yc:Nat)(a b:List Bs)(w:Wo)(h:SS w xa xb xo a)(k:SS w ya yb yo b)(ha:Vx a)(hb:Vx b):
  Calls prog 71 #[.slice xa a.length xc,.slice ya b.length yc] w fun e w'=>e= .returned (.bool (qD a b))/\Bw w w':=by
 by_cases F:a.length<=1000
 ·by_cases G:b.length<=1000
  ·have u:Hid (qD a b=Gh (a.map (·.data.toList)) (b.map (·.data.toList))):=by show _=_;unfold qD;rw[yg ⟨F,G⟩]
   have K:=zb h;have L:=zb k;have S:=h.ad;have O:=k.ad;have HA:=zb ha;have HB:=zb hb;clear h k ha hb;go_in;go_wp2;go_loopw [5] (fun i wr=>∃ n:Nat,n<=a.length/\i= .int .i64 n/\(∀ j,j<n->∀ m,m<b.length->Yl (a.getD j ByteArray.empty).data.toList (b.getD m ByteArray.empty).data.toList=false)/\Bw w wr) (fun i _=>a.length - (intOf i).toNat)
   case atStart=>exact⟨0,yt _,rfl,fun j E=>by omega,yH _ _⟩
   case round=>
    obtain⟨n,hn,rfl,J,B⟩:=hrel;have A:=zb J;clear J;by_cases s:n<a.length
    ·obtain rfl:=S (by omega);have W:(n:Int)<(a.length:Int):=by omega
     have U:(a.getD n ByteArray.empty).size<=1048576:=(uh HA).at s;clear S;have R:Hid (∀ m,m<b.length->Yl (a.getD n ByteArray.empty).data.toList (b.getD m ByteArray.empty).data.toList=true->Gh (a.map (·.data.toList)) (b.map (·.data.toList))=true):=fun m H e=>by
      unfold Gh;rw[List.any_map,List.any_eq_true];refine⟨a.getD n ByteArray.empty,by simp[List.getD,s],?_⟩;simp only[Function.comp_apply];rw[List.any_map,List.any_eq_true];exact⟨b.getD m ByteArray.empty,by simp[List.getD,H],e⟩
     have Q:Hid (∀ X:Wo,Bw w X->X.cell? ⟨xb,xo+n,none⟩=some (.string (a.getD n ByteArray.empty))):=fun X hX=>((uh K).below hX).cell n s;generalize hp:a.getD n ByteArray.empty=p at *;have HP:=zb hp;clear hp;have v:=zb B;clear B;go_wp2;go_loopw [6] (fun i wr=>∃ m:Nat,m<=b.length/\i= .int .i64 m/\(∀ j,j<m->Yl p.data.toList (b.getD j ByteArray.empty).data.toList=false)/\Bw w wr) (fun i _=>b.length - (intOf i).toNat)
     case atStart=>exact⟨0,yt _,rfl,fun j E=>by omega,uh v⟩
     case round=>
      obtain⟨m,H,rfl,o,B⟩:=hrel;have M:=zb o;clear o v;by_cases f:m<b.length
      ·obtain rfl:=O (by omega);have Y:(m:Int)<(b.length:Int):=by omega
       have V:(b.getD m ByteArray.empty).size<=1048576:=(uh HB).at f;have c1:=uh Q _ B.drew;have c2:=((uh L).below B.drew).cell m f;have r:=zb (uh R m f);have d:Hid (Yl p.data.toList (b.getD m ByteArray.empty).data.toList=false->∀ j,j<m+1->Yl p.data.toList (b.getD j ByteArray.empty).data.toList=false):=fun e j E=>by
        by_cases T:j=m
        ·subst T;exact e
        ·exact uh M j (by omega)
       clear O M R A K L Q;generalize b.getD m ByteArray.empty=q at *;have N:Hid (∀ w,Calls prog 109 #[.string p,.string q] w (Rb (.int .i64 (Y4 (zG p.data.toList) (zG q.data.toList))) w)):=fun w=>Ac p q w U V;have I:=EH p.data.toList q.data.toList;generalize Y4 (zG p.data.toList) (zG q.data.toList)=z at *;have l:=zb I;clear I;have g:=zb B;clear B;by_cases Z:0<z
       ·have C:=zb (uh r (by rw[uh l];exact yj Z));clear r d l;go_wp2_with fail;go_region_law (go_simp;refine (uh N _).mono ?_;rintro e w2 ⟨rfl,D⟩;have P:=zh ((uh g).drew) D)
        all_goals
         clear D N g c1 c2;go_wp2;go_ret;exact⟨by rw[uh u,uh C];rfl,P⟩
       ·have C:=zb (uh d (by rw[uh l];exact yk Z));clear r d l;go_wp2_with fail;go_region_law (go_simp;refine (uh N _).mono ?_;rintro e w2 ⟨rfl,D⟩;have P:=zh ((uh g).drew) D)
        all_goals
         clear D N g c1 c2;go_wp2;go_roundw
        all_goals first
         | exact⟨m+1,by omega,by go_num,uh C,P⟩
         |(simp[intOf];omega)
      ·have d:Hid (∀ j,j<n+1->∀ m,m<b.length->Yl (a.getD j ByteArray.empty).data.toList (b.getD m ByteArray.empty).data.toList=false):=fun j E m' hm'=>by
        by_cases T:j=n
        ·subst T;rw[uh HP];exact uh M m' (by omega)
        ·exact uh A j (by omega) m' hm'
       clear O M R A K L Q;go_wp2;go_roundw
       case rel=>exact⟨n+1,by omega,by go_num,uh d,B⟩
       case measure=>simp[intOf];omega
    ·have C:Hid (Gh (a.map (·.data.toList)) (b.map (·.data.toList))=false):=by
      show _=_
      unfold Gh;rw[List.any_map,List.any_eq_false];intro x hx;rw[Bool.not_eq_true];simp only[Function.comp_apply];rw[List.any_map,List.any_eq_false];intro y hy;obtain⟨j,E,rfl⟩:=List.getElem_of_mem hx;obtain⟨m,H,rfl⟩:=List.getElem_of_mem hy;have:=uh A j (by omega) m H;rw[Bool.not_eq_true];simpa [List.getD,E,H]using this
     clear S O A K L;go_wp2;go_ret;exact⟨by rw[uh u,uh C];rfl,B⟩
  ·have u:Hid (qD a b=false):=by show _=_;unfold qD;rw[yf (fun e=>G e.2)]
   have t1:¬ (1000:Int)<(a.length:Int):=by omega
   have t2:(1000:Int)<(b.length:Int):=by omega
   clear h k;go_in;go_wp2;go_ret;exact⟨by rw[uh u];rfl,yH _ _⟩
 ·have u:Hid (qD a b=false):=by show _=_;unfold qD;rw[yf (fun e=>F e.1)]
  have t1:(1000:Int)<(a.length:Int):=by omega
  clear h k;go_in;go_wp2;go_ret;exact⟨by rw[uh u];rfl,yH _ _⟩
end Go.Proofs.YtekpghcckdjnhaaGreatDoor
