import Derived.Test.YtpaecnbdoljafaaGreatDoorBp1
import Derived.Test.YtpaecnbdoljafaaGreatDoorBp7
import Derived.Lib.RuneCount
set_option maxRecDepth 100000
set_option maxHeartbeats 8000000
namespace Go.Proofs.YtpaecnbdoljafaaGreatDoor
open Go.RowKit Go.Shelf Go.Proofs.Tryz
def ML(w:Wo):Prop:=∃ m,w.cell? ⟨Tryz.laysM146_ren.g 1,0,none⟩=some (.int .i64 m)
theorem ML.of{w:Wo}(h:w.ShapedOpen prog):ML w:=Tryz.laysM146.s1_3 w h
theorem ML.below{w w':Wo}(h:ML w)(hb:Bw w w'):ML w':=by
 obtain⟨m,a⟩:=h;exact⟨m,(hb.cell (yI _ _ a)).trans a⟩
def YR(s:Bs):List Bs:=Lib.splitB ⟨#[47]⟩ 0 (Lib.countB s ⟨#[47]⟩) s
theorem zas(s:Bs):(YR s).map (·.data.toList)=ZH s.data.toList:=Mo s
theorem Nf(s:Bs):(YR s).length=Lib.countB s ⟨#[47]⟩+1:=Lib.splitB_all ⟨#[47]⟩ (by decide) 0 _ s rfl
theorem zat(s:Bs):(YR s).length<=s.size+1:=by rw[Nf];have:=Lib.countB_le ⟨#[47]⟩ (by decide) _ s (yd _);omega
theorem zau(s:Bs)(w:Wo)(h:ML w)(hs:s.size<=1048576):
  Calls prog 137 #[.string s,.string ⟨#[47]⟩] w fun e w'=>e= .returned (.slice (some ⟨w.heap.size,0,none⟩) (YR s).length (YR s).length)/\SS w' (some ⟨w.heap.size,0,none⟩) w.heap.size 0 (YR s)/\Bw w w'/\w.heap.size<w'.heap.size:=by
 obtain⟨m,b⟩:=h;refine Calls.mono (Any.strings_Split {Tryz.laysM146 with} Tryz.laysM146.i9 s ⟨#[47]⟩ m w (by omega) b (by decide)) ?_;rintro e w' ⟨rfl,rfl⟩;refine⟨?_,⟨fun _=>rfl,fun j hj=>?_⟩,(yG _ _).alloc (yd _) _,by simp⟩
 ·rw[Nf]
 ·have a:=yF w (.cells ((YR s).map Value.string).toArray 9);show (w.alloc (.cells ((YR s).map Value.string).toArray 9)).cell? _=_
  rw[yE a];simp[hj]
end Go.Proofs.YtpaecnbdoljafaaGreatDoor
namespace Go.Proofs.YtpaecnbdoljafaaGreatDoor
open Go.RowKit Go.Proofs.Tryz
theorem zav{c:UInt8}{r:List UInt8}(h:¬ c.toNat=47):∃ p ps,ZH (c :: r)=(c :: p) :: ps:=by
 cases hp:ZH r with
 | nil=>exact absurd hp (GL r)
 | cons p ps=>exact⟨p,ps,Vh h hp⟩
theorem Ng:∀ (l p:List UInt8),p∈ZH l->p.length<=l.length
 | [],p,h=>by simp[ZH]at h;subst h;simp
 | c :: r,p,h=>by
  have ih:=Ng r;by_cases a:c.toNat=47
  ·rw[GM r a]at h;rcases List.mem_cons.1 h with rfl | h
   ·simp
   ·have:=ih p h;simp;omega
  ·cases hp:ZH r with
   | nil=>exact absurd hp (GL r)
   | cons q qs=>
    rw[Vh a hp]at h;rcases List.mem_cons.1 h with rfl | h
    ·have:=ih q (by rw[hp];exact yo);simp;omega
    ·have:=ih p (by rw[hp];exact yu _ h);simp;omega
def Jf(qs:List (List UInt8))(k:Nat)(done:List (List UInt8)):Prop:=qs.mapM zJ=((qs.drop k).mapM zJ).map (done++·)
theorem Jf.start(qs:List (List UInt8)):Jf qs 0 []:=by simp[Jf]
theorem XD(p:List UInt8)(ps:List (List UInt8)):(p :: ps).mapM zJ=(zJ p).bind fun t=>(ps.mapM zJ).map (t :: ·):=by
 rw[List.mapM_cons]
 cases zJ p with
 | none=>rfl
 | some t=>cases List.mapM zJ ps<;>rfl
theorem Jf.step{qs done:List (List UInt8)}{k:Nat}{t:List UInt8}(h:Jf qs k done)(hk:k<qs.length)(hu:zJ qs[k]=some t):Jf qs (k+1) (done++[t]):=by
 unfold Jf at *;rw[h,List.drop_eq_getElem_cons hk,XD,hu];show Option.map (done++·) (Option.map (t :: ·) _)=_
 rw[Option.map_map];congr 1;funext x;simp
theorem Jf.bad{qs done:List (List UInt8)}{k:Nat}(h:Jf qs k done)(hk:k<qs.length)(hu:zJ qs[k]=none):qs.mapM zJ=none:=by
 unfold Jf at h;rw[h,List.drop_eq_getElem_cons hk,XD,hu];rfl
theorem Jf.fin{qs done:List (List UInt8)}{k:Nat}(h:Jf qs k done)(hk:qs.length<=k):qs.mapM zJ=some done:=by
 unfold Jf at h;rw[h,List.drop_eq_nil_of_le hk];simp
theorem Nh(s:Bs)(w:Wo)(hML:ML w)(hs:s.size<=1048576):
  Calls prog 95 #[.string s] w fun e w'=>∃ v,e= .returned (.tuple #[v,.bool (zG s.data.toList).isSome])/\OT w' w.heap.size v ((zG s.data.toList).getD [])/\Bw w w':=by
 obtain⟨i0,hi,T,U,V⟩:=info_parts XJ;by_cases h0:s.size=0
 ·have hse:s=⟨#[]⟩:=by
   have:s.data.toList=[]:=yM (by rw[Zb];exact h0);obtain⟨⟨l⟩⟩:=s;simp at this;subst this;rfl
  subst hse;clear h0;go_in;go_wp2;go_ret2;exact⟨_,rfl,World.ownsRow_nil _ _ _ _,yG _ _⟩
 ·have Q:s.toList.isEmpty=false:=by
   rw[Lib.toList_data,List.isEmpty_eq_false_iff];intro e;exact h0 (by rw[← Zb,e];rfl)
  have h0':0<s.size:=by omega
  have O:=Zb s;have C:=zh (zau s w hML hs);have b:=zas s;have z:=zat s;have A:s.data.toList=s[0] :: s.data.toList.drop 1:=by have:=qT s 0 h0';simpa using this
  obtain⟨F,a,B⟩:∃ F a,YR s=F :: a:=by
   cases h:YR s with
   | nil=>have:=Nf s;rw[h]at this;simp at this
   | cons F a=>exact⟨F,a,rfl⟩
  rw[B]at b z;rw[B]at C;by_cases m:s[0].toNat=47
  ·rw[A,GM _ m]at b;simp only[yh,List.cons.injEq]at b;have R:F=⟨#[]⟩:=by obtain⟨⟨l⟩⟩:=F;have:=b.1;simp at this;subst this;rfl
   have Y:=zh b.2;have J:Hid (zG s.data.toList=Qc (s.data.toList.drop 1)):=Nu (by omega) m;clear b A m O;subst R;go_in;go_wp2_with fail;refine (uh C).mono ?_;rintro e y ⟨rfl,s1,K,z1⟩;have c0:=s1.cell 0 (by simp);simp only[Nat.add_zero,List.getD_cons_zero]at c0;have hpl:a.length<=1048576:=by simp at z;omega
   have hpe:¬ a=[]:=by intro e;have h:=uh Y;rw[e]at h;exact GL _ h.symm
   have hpp:0<a.length:=by cases a with
    | nil=>exact absurd rfl hpe
    | cons _ _=>simp
   have HS1:=zh s1;have E:=K.size;clear s1 z C B Q;go_wp2_with (at_make;refine wpList_make_own _ rfl _ _ 30 rfl y.heap.size 9 i0 (.string ByteArray.empty) 1 underlying30 hi T U .i64 .i64 _ a.length rfl rfl rfl (by rw[V];omega) (by unfold maxLen;omega) (yd _) ?_);intro w2 o f;have G:Hid (Bw y w2):=(yG _ _).grown f (yd _) (by intro k Z;cases Z);have I:=zh o;clear o f;go_wp2;go_loopw [5,25] (fun v i wr=>∃ (k:Nat) (d:List (List UInt8)),k<=a.length/\i= .int .i64 k/\d.length<=k/\OT wr y.heap.size v d/\Bw y wr/\Jf (a.map (·.data.toList)) k d) (fun _ i _=>a.length - (intOf i).toNat)
   case atStart=>exact⟨0,[],yr _,rfl,yd _,uh I,uh G,Jf.start _⟩
   case round=>
    obtain⟨k,d,Z,rfl,hdn,j,M,P⟩:=hrel;have HM:=zh P;have hwsz:=M.size;clear P I G c0;by_cases n:k<a.length
    ·have N:=(uh HS1).cell (k+1) (by simp;omega);have hc:wr.cell? ⟨w.heap.size,1+k,none⟩=some (.string (a.getD k ByteArray.empty)):=by
      have h1:y.cell? ⟨w.heap.size,1+k,none⟩=some (.string (a.getD k ByteArray.empty)):=by
       rw[show 1+k=0+(k+1)from by omega,N];simp
      exact (M.cell (p:=⟨w.heap.size,1+k,none⟩) z1).trans h1
     have S:(a.getD k ByteArray.empty).size<=1048576:=by
      have hm:(a.getD k ByteArray.empty).data.toList∈a.map (·.data.toList):=yN.2 ⟨_,by simp[n],rfl⟩;rw[uh Y]at hm;have:=Ng _ _ hm;rw[Zb,yt,Zb]at this;omega
     have D:(a.map (·.data.toList))[k]'(by simpa using n)=(a.getD k ByteArray.empty).data.toList:=by simp[n]
     have HC:=zh (Mw (a.getD k ByteArray.empty) wr S);clear N S;generalize a.getD k ByteArray.empty=p at *
     cases ho:zJ p.data.toList with
     | none=>
      have H:=zh ((uh HM).bad (by simpa using n) (by rw[D];exact ho));rw[ho,XL]at HC;clear D ho;go_wp2_with fail;refine (uh HC).mono ?_;rintro e w3 ⟨rfl,L⟩;have X:=zj M L;clear j HC;go_wp2;go_ret2;have HR:zG s.data.toList=none:=by rw[uh J];unfold Qc;rw[← uh Y];exact uh H
      exact⟨_,by rw[HR];rfl,by rw[HR];exact World.ownsRow_nil _ _ _ _,K.trans (X.mono E)⟩
     | some t=>
      have H:=zh ((uh HM).step (by simpa using n) (by rw[D];exact ho));rw[ho,XK]at HC;clear D ho;go_wp2_with fail;refine (uh HC).mono ?_;rintro e w3 ⟨rfl,L⟩;have X:=zj M L;have x:=ZI j L;have hw3:=X.size;clear j HC L;go_wp2_with (at_builtin;refine wpList_append_own _ rfl (.tmp 36) (.tmp 38) 30 rfl y.heap.size 9 i0 (.string ByteArray.empty) 1 16 underlying30 hi T U V rfl (by decide) _ _ _ rfl (x.alloc _) ⟨w3.heap.size,0,none⟩ 1 1 [.string (Zc t)] rfl rfl (QH _ _ _) (U4 _) (by unfold maxLen;omega) (by omega) (by simp;omega) ?_);intro v4 w4 u g _;have B4:Bw y w4:=(X.alloc hw3 _).grown g (by simp;omega) (fun k Z=>(x.lt k Z).1);have W:=OT.step (t:=t) u;clear u g x;go_wp2;go_roundw
      case rel=>exact⟨k+1,d++[t],by omega,by go_num,by simp;omega,W,B4,uh H⟩
      case measure=>simp[intOf];omega
    ·have H:=zh ((uh HM).fin (by simp;omega));go_wp2;go_ret2;have HR:zG s.data.toList=some d:=by rw[uh J];unfold Qc;rw[← uh Y];exact uh H
     exact⟨_,by rw[HR];rfl,by rw[HR];exact JB j E,K.trans (M.mono E)⟩
  ·obtain⟨q,qs,hq⟩:=zav (r:=s.data.toList.drop 1) m;rw[A,hq]at b;simp only[yh,List.cons.injEq]at b;have R:F.toList.isEmpty=false:=by rw[Lib.toList_data,b.1];rfl
   have J:Hid (zG s.data.toList=none):=Nv (by omega) m;clear b A m O hq;go_in;go_wp2_with fail;refine (uh C).mono ?_;rintro e y ⟨rfl,s1,K,z1⟩;have c0:=s1.cell 0 (by simp);simp only[Nat.add_zero,List.getD_cons_zero]at c0;clear s1 C B z Q;go_wp2;go_ret2;exact⟨_,by rw[uh J];rfl,by rw[uh J];exact World.ownsRow_nil _ _ _ _,K⟩
theorem Ni(w:Wo)(n B:Nat):Below B w (w.drewN n):=⟨rfl,rfl,rfl,yd _,fun _ _=>rfl⟩
theorem zaw(l:List UInt8):((zG l).getD []).length<=l.length:=by
 cases l with
 | nil=>simp[zG]
 | cons c r=>
  rw[zG];split
  ·unfold Qc;have b:∀ (qs:List (List UInt8)),((qs.mapM zJ).getD []).length<=qs.length:=by
    intro qs;induction qs with
    | nil=>simp
    | cons q qs ih=>
     rw[XD]
     cases zJ q with
     | none=>simp
     | some t=>
      cases hq:List.mapM zJ qs with
      | none=>simp
      | some ts=>rw[hq]at ih;simp at ih ⊢;omega
   have d:∀ (l:List UInt8),(ZH l).length<=l.length+1:=by
    intro l;induction l with
    | nil=>simp[ZH]
    | cons c r ih=>
     by_cases a:c.toNat=47
     ·rw[GM r a];simp;omega
     ·cases hp:ZH r with
      | nil=>exact absurd hp (GL r)
      | cons q qs=>rw[Vh a hp];rw[hp]at ih;simp at ih ⊢;omega
   have:=b (ZH r);have:=d r;simp;omega
  ·simp
theorem Mf(B b:Nat)(bs:List Value)(r:Int)(hr0: -2147483648<=r)(hr1:r<=2147483647)(w:Wo)(h:Lib.IsBuilder 149 5 B b bs w)(hlen:bs.length+4<=140737488355328)(hBw:B<=w.heap.size):
  Calls prog 201 #[.pointer (some ⟨b,0,none⟩),.int .i32 r] w fun e w'=>(∃ n:Int,e= .returned (.tuple #[.int .i64 n,.nilIface]))/\(Lib.BuilderAt 149 5 B b (.pointer (some ⟨b,0,none⟩)) (bs++Lib.runeCells r) w'/\Below B w w'/\Lib.OthersKept 5 (some b) w w'):=by
 go_in;go_wp2_with (go_at_call 219;refine (X0 B b bs _ h).mono ?_);rintro e z ⟨rfl,O,x,A⟩;obtain⟨K,v,l,f,I⟩:=O;have c0:z.cell? ⟨b,0,none⟩=some (.pointer (some ⟨b,0,none⟩)):=by rw[yE l];rfl
 have c1:z.cell? ⟨b,1,none⟩=some v:=by rw[yE l];rfl
 obtain⟨C,E,D,rfl⟩:∃ m q a,v= .slice m q a:=by
  rcases f.2 with ⟨y,_⟩ |⟨g,a,F,y,_⟩
  ·exact⟨_,_,_,y⟩
  ·exact⟨_,_,_,y⟩
 have u:B<=z.heap.size:=by have:=x.size;omega
 have J:=zh (Tryz.utf8_AppendRune_plain B (.slice C E D) bs.length bs r hr0 hr1 z f hlen u);go_wp2_with fail;refine (uh J).mono ?_;rintro e s ⟨P,rfl,i,o,d⟩;have H:b<z.heap.size:=by
  rcases Nat.lt_or_ge b z.heap.size with G | G
  ·exact G
  ·simp[Array.getElem?_eq_none G]at l
 have j:s.heap[b]?=some (.cells #[.pointer (some ⟨b,0,none⟩),.slice C E D] 149 (0,0)):=by
  rw[d.block b (by simp;omega) (fun e=>I e.symm),Lib.alloc_old z _ b H];exact l
 have Q:s.cell? ⟨b,0,none⟩=some (.pointer (some ⟨b,0,none⟩)):=by rw[yE j];rfl
 have R:s.cell? ⟨b,1,none⟩=some (.slice C E D):=by rw[yE j];rfl
 have U:s.frozen? ⟨b,1,none⟩=false:=yH j 1;obtain⟨m,q,a,rfl⟩:∃ m q a,P= .slice m q a:=by
  rcases i.2 with ⟨y,_⟩ |⟨g,a,F,y,_⟩
  ·exact⟨_,_,_,y⟩
  ·exact⟨_,_,_,y⟩
 have L:Hid (Lib.BuilderAt 149 5 B b (.pointer (some ⟨b,0,none⟩)) (bs++Lib.runeCells r) (s.setCell ⟨b,1,none⟩ (.slice m q a))):=Lib.BuilderAt.put (T:=149) (e:=5) K j (bs':=bs++Lib.runeCells r) (by simpa using i) (by decide);have M:Hid (Below B w (s.setCell ⟨b,1,none⟩ (.slice m q a))):=((x.alloc u _).grown d (by simp;omega) (fun k hk=>(f.lt k hk).1)).setCell (p:=⟨b,1,none⟩) K _;have N:Hid (Lib.OthersKept 5 (some b) w (s.setCell ⟨b,1,none⟩ (.slice m q a))):=((A.alloc o).grown d (XZ (f.alloc _))).setCell ⟨b,1,none⟩ rfl _;have S:(s.setCell ⟨b,1,none⟩ (.slice m q a)).cell? ⟨b,1,none⟩=some (.slice m q a):=by
  have:=heap_setCell_same s b 1 #[.pointer (some ⟨b,0,none⟩),.slice C E D] 149 (.slice m q a) j;rw[yE this];rfl
 clear J i d f l j x A;go_wp2;go_ret2;exact⟨⟨_,rfl⟩,uh L,uh M,uh N⟩
def pc(r:Nat):List UInt8:=if r<128 then qB (UInt8.ofNat r)else Lib.encodeRune r
theorem Mg(r:Nat):(pc r).length<=6:=by
 unfold pc;split
 ·exact XN _
 ·have:=Lib.encodeRuneZ_length r;simp[Lib.encodeRune];omega
theorem YS{r:Nat}(h:r<128):pc r=qB (UInt8.ofNat r):=by unfold pc;rw[yf h]
theorem JR{r:Nat}(h:r<256):(UInt8.ofNat r).toNat=r:=by rw[UInt8.toNat_ofNat'];omega
abbrev Qy(b:Nat)(w w':Wo):Prop:=Lib.OthersKept 5 (some b) w w'
theorem zax:∀ r:Fin 32,bits BinOp.and IntKind.i32 ((r.val:Nat):Int) 15=((r.val % 16:Nat):Int):=by decide +kernel
theorem zay{r:Nat}(h:r<32):bits BinOp.and IntKind.i32 (r:Int) 15=((r % 16:Nat):Int):=zax ⟨r,h⟩
theorem zaz(B b:Nat)(l:List UInt8)(r:Nat)(w:Wo)(h:zH B b l w)(hB:B<=w.heap.size)(hr:r<=1114111)(hl:l.length<=100000000):
  Calls prog 314 #[.pointer (some ⟨b,0,none⟩),.int .i32 r] w fun e w'=>e= .returned (.tuple #[])/\zH B b (l++pc r) w'/\Below B w w'/\Qy b w w':=by
 have hq:(Lib.byteCells l).length<=100000000:=by rw[yJ];exact hl
 by_cases E:32<=r
 ·by_cases e:r=34
  ·have f:Hid (pc r=[92,34]):=by
    show _=_;rw[YS (by omega),GV (by rw[JR (by omega)];omega)];subst e;rfl
   have j:((r:Int) ==34)=true:=by rw[yB];omega
   clear e;go_in;go_wp2_with fail;refine (Yb B b _ _ _ h (by show _+2<=_;omega) hB).mono ?_;rintro e s ⟨rfl,d,g,i⟩;have a:=zH.str (m:=[92,34]) rfl d;clear d;go_wp2;go_end0;exact⟨rfl,by rw[uh f];exact a,g,i⟩
  ·by_cases C:r=92
   ·have e:=C;clear C;have f:Hid (pc r=[92,92]):=by
     show _=_;rw[YS (by omega),GV (by rw[JR (by omega)];omega)];subst e;rfl
    have j:((r:Int) ==34)=false:=by rw[yb];omega
    have k:((r:Int) ==92)=true:=by rw[yB];omega
    clear e;go_in;go_wp2_with fail;refine (Yb B b _ _ _ h (by show _+2<=_;omega) hB).mono ?_;rintro e s ⟨rfl,d,g,i⟩;have a:=zH.str (m:=[92,92]) rfl d;clear d;go_wp2;go_end0;exact⟨rfl,by rw[uh f];exact a,g,i⟩
   ·have f:Hid (Lib.runeCells r=Lib.byteCells (pc r)):=by
     show _=_
     by_cases N:r<128
     ·rw[YS N,Ka (by rw[JR (by omega)];exact e) (by rw[JR (by omega)];exact C) (by rw[JR (by omega)];exact E)];unfold Lib.runeCells;rw[Lib.encodeRuneZ_one (by omega) (by omega)];simp only[yh,List.map_nil,Lib.byteCells,JR (show r<256 by omega)]
     ·unfold pc;rw[ye N,Lib.byteCells_encodeRune]
    have j:((r:Int) ==34)=false:=by rw[yb];omega
    have k:((r:Int) ==92)=false:=by rw[yb];omega
    have v:((r:Int) ==8)=false:=by rw[yb];omega
    have A:((r:Int) ==9)=false:=by rw[yb];omega
    have p:((r:Int) ==10)=false:=by rw[yb];omega
    have u:((r:Int) ==12)=false:=by rw[yb];omega
    have z:((r:Int) ==13)=false:=by rw[yb];omega
    have J:(32:Int)<=(r:Int):=by omega
    clear e C;go_in;go_wp2_with fail;refine (Mf B b _ (r:Int) (by omega) (by omega) _ h (by omega) hB).mono ?_;rintro e s ⟨⟨n,rfl⟩,d,g,i⟩;have a:=zH.cells (uh f) d;clear d;go_wp2;try simp only[Exit.inBlock,Exit.then]
    refine bodyPost_ret (results_none rfl _ _ _) rfl ?_;exact⟨rfl,a,g,i⟩
 ·by_cases F:GW r
  ·have f:Hid (pc r=[92,117,48,48,QJ.getD (r / 16) 0,QJ.getD (r % 16) 0]):=by
    show _=_;rw[YS (by omega),XT (by rw[JR (by omega)];exact F),JR (by omega)]
   obtain⟨W,X,Y,Z,g5,g6⟩:=F;have j:((r:Int) ==34)=false:=by rw[yb];omega
   have k:((r:Int) ==92)=false:=by rw[yb];omega
   have v:((r:Int) ==8)=false:=by rw[yb];omega
   have A:((r:Int) ==9)=false:=by rw[yb];omega
   have p:((r:Int) ==10)=false:=by rw[yb];omega
   have u:((r:Int) ==12)=false:=by rw[yb];omega
   have z:((r:Int) ==13)=false:=by rw[yb];omega
   have J:¬ (32:Int)<=(r:Int):=by omega
   obtain⟨q,o⟩:∃ q:Nat,q=r % 16:=⟨_,rfl⟩;have O:bits BinOp.and IntKind.i32 (r:Int) 15=(q:Int):=by rw[o];exact zay (by omega)
   have y:q<16:=by omega
   have G:(q:Int)<16:=by omega
   have S:(0:Int)<=(q:Int):=by omega
   rw[← o]at f;clear o;go_in;go_wp2_with fail;refine (Yb B b _ _ _ h (by show _+4<=_;omega) hB).mono ?_;rintro e s ⟨rfl,d,g,i⟩;have a:=zH.str (m:=[92,117,48,48]) rfl d;have H:B<=s.heap.size:=by have:=g.size;omega
   clear d;go_wp2_with fail;refine (Wc B b _ _ _ a (by rw[yJ];simp;omega) H).mono ?_;rintro e V ⟨rfl,L,K,T⟩;have x:=zH.byte (c:=QJ.getD (r / 16) 0) (congrArg (fun c:UInt8=>(c.toNat:Int)) (Kb (r / 16) (by omega))) L;have I:B<=V.heap.size:=by have:=K.size;omega
   clear L a;go_wp2_with fail;refine (Wc B b _ _ _ x (by rw[yJ];simp;omega) I).mono ?_;rintro e w3 ⟨rfl,M,R,U⟩;have D:=zH.byte (c:=QJ.getD q 0) (congrArg (fun c:UInt8=>(c.toNat:Int)) (Kb q y)) M;have P:=(g.trans K).trans R;have Q:=(i.trans T).trans U;clear M x;go_wp2;go_end0;exact⟨rfl,by rw[uh f];simpa using D,P,Q⟩
  ·rcases (show r=8∨r=9∨r=10∨r=12∨r=13 from by unfold GW at F;omega)with e | e | e | e | e
   ·have f:Hid (pc r=[92,98]):=by
     show _=_;rw[YS (by omega),XO (by rw[JR (by omega)];omega)]
    have j:((r:Int) ==34)=false:=by rw[yb];omega
    have k:((r:Int) ==92)=false:=by rw[yb];omega
    have v:((r:Int) ==8)=true:=by rw[yB];omega
    clear e;go_in;go_wp2_with fail;refine (Yb B b _ _ _ h (by show _+2<=_;omega) hB).mono ?_;rintro e s ⟨rfl,d,g,i⟩;have a:=zH.str (m:=[92,98]) rfl d;clear d;go_wp2;go_end0;exact⟨rfl,by rw[uh f];exact a,g,i⟩
   ·have f:Hid (pc r=[92,116]):=by
     show _=_;rw[YS (by omega),XP (by rw[JR (by omega)];omega)]
    have j:((r:Int) ==34)=false:=by rw[yb];omega
    have k:((r:Int) ==92)=false:=by rw[yb];omega
    have v:((r:Int) ==8)=false:=by rw[yb];omega
    have A:((r:Int) ==9)=true:=by rw[yB];omega
    clear e;go_in;go_wp2_with fail;refine (Yb B b _ _ _ h (by show _+2<=_;omega) hB).mono ?_;rintro e s ⟨rfl,d,g,i⟩;have a:=zH.str (m:=[92,116]) rfl d;clear d;go_wp2;go_end0;exact⟨rfl,by rw[uh f];exact a,g,i⟩
   ·have f:Hid (pc r=[92,110]):=by
     show _=_;rw[YS (by omega),XQ (by rw[JR (by omega)];omega)]
    have j:((r:Int) ==34)=false:=by rw[yb];omega
    have k:((r:Int) ==92)=false:=by rw[yb];omega
    have v:((r:Int) ==8)=false:=by rw[yb];omega
    have A:((r:Int) ==9)=false:=by rw[yb];omega
    have p:((r:Int) ==10)=true:=by rw[yB];omega
    clear e;go_in;go_wp2_with fail;refine (Yb B b _ _ _ h (by show _+2<=_;omega) hB).mono ?_;rintro e s ⟨rfl,d,g,i⟩;have a:=zH.str (m:=[92,110]) rfl d;clear d;go_wp2;go_end0;exact⟨rfl,by rw[uh f];exact a,g,i⟩
   ·have f:Hid (pc r=[92,102]):=by
     show _=_;rw[YS (by omega),XR (by rw[JR (by omega)];omega)]
    have j:((r:Int) ==34)=false:=by rw[yb];omega
    have k:((r:Int) ==92)=false:=by rw[yb];omega
    have v:((r:Int) ==8)=false:=by rw[yb];omega
    have A:((r:Int) ==9)=false:=by rw[yb];omega
    have p:((r:Int) ==10)=false:=by rw[yb];omega
    have u:((r:Int) ==12)=true:=by rw[yB];omega
    clear e;go_in;go_wp2_with fail;refine (Yb B b _ _ _ h (by show _+2<=_;omega) hB).mono ?_;rintro e s ⟨rfl,d,g,i⟩;have a:=zH.str (m:=[92,102]) rfl d;clear d;go_wp2;go_end0;exact⟨rfl,by rw[uh f];exact a,g,i⟩
   ·have f:Hid (pc r=[92,114]):=by
     show _=_;rw[YS (by omega),XS (by rw[JR (by omega)];omega)]
    have j:((r:Int) ==34)=false:=by rw[yb];omega
    have k:((r:Int) ==92)=false:=by rw[yb];omega
    have v:((r:Int) ==8)=false:=by rw[yb];omega
    have A:((r:Int) ==9)=false:=by rw[yb];omega
    have p:((r:Int) ==10)=false:=by rw[yb];omega
    have u:((r:Int) ==12)=false:=by rw[yb];omega
    have z:((r:Int) ==13)=true:=by rw[yB];omega
    clear e;go_in;go_wp2_with fail;refine (Yb B b _ _ _ h (by show _+2<=_;omega) hB).mono ?_;rintro e s ⟨rfl,d,g,i⟩;have a:=zH.str (m:=[92,114]) rfl d;clear d;go_wp2;go_end0;exact⟨rfl,by rw[uh f];exact a,g,i⟩
theorem Mh{T e:TypeId}{B b:Nat}{p:Value}{bs:List Value}{w:Wo}(h:Lib.BuilderAt T e B b p bs w){k:Nat}{s:Bs}{pos:Nat}(hk:w.heap[k]?=some (.stringIter s pos))(pos':Nat):Lib.BuilderAt T e B b p bs (w.iterAt k s pos'):=by
 obtain⟨u,v,l,a,r⟩:=h;have o:b≠k:=by
  intro j;rw[j,hk]at l
  cases l
 refine⟨u,v,(Lib.iterAt_other w k b s pos' o).trans l,⟨a.1,?_⟩,r⟩;rcases a.2 with x |⟨g,f,i,y,m,n,d⟩
 ·exact .inl x
 ·have q:g≠k:=by
   intro j;rw[j,hk]at n
   cases n
  exact .inr ⟨g,f,i,y,m,(Lib.iterAt_other w k g s pos' q).trans n,d⟩
theorem zH.iterAt{B b:Nat}{l:List UInt8}{w:Wo}(h:zH B b l w){k:Nat}{s:Bs}{pos:Nat}(hk:w.heap[k]?=some (.stringIter s pos))(pos':Nat):zH B b l (w.iterAt k s pos'):=
 h.elim (fun x=>.inl (Mh x hk pos')) (fun x=>.inr (Mh x hk pos'))
theorem zH.alloc{B b:Nat}{l:List UInt8}{w:Wo}(h:zH B b l w)(o:Obj):zH B b l (w.alloc o):=by
 have g:∀ p,Lib.BuilderAt 149 5 B b p (Lib.byteCells l) w->Lib.BuilderAt 149 5 B b p (Lib.byteCells l) (w.alloc o):=by
  rintro p ⟨i,v,f,a,d⟩;exact⟨i,v,(Lib.alloc_old w o b (yA.1 f).1).trans f,a.alloc o,d⟩
 exact h.elim (fun x=>.inl (g _ x)) (fun x=>.inr (g _ x))
theorem zH.lt{B b:Nat}{l:List UInt8}{w:Wo}(h:zH B b l w):b<w.heap.size:=h.elim (fun x=>x.lt) (fun x=>x.lt)
def JS(s:Bs):Nat->Nat->List UInt8
 | 0,_=>[]
 | f+1,pos=>if pos<s.size then pc (Utf8.decode s pos).1++JS s f (pos+(Utf8.decode s pos).2)else []
def rs(s:Bs):List UInt8:=JS s s.size 0
theorem zaA(s:Bs)(f pos:Nat)(h:¬ pos<s.size):JS s f pos=[]:=by
 cases f with
 | zero=>rfl
 | succ f=>simp[JS,h]
theorem zaB(s:Bs)(pos:Nat):(Utf8.decode s pos).1<=1114111:=by
 rw[JT];exact Lib.decodeN_rune_le _ _ _ _ _ (ZL s pos)
theorem zaC{b k:Nat}{a w:Wo}(h:Qy b a w)(hk:a.heap.size<=k)(s:Bs)(pos:Nat):Qy b a (w.iterAt k s pos):=fun i o hi hb ho=>by
 have f:i<a.heap.size:=(yA.1 hi).1;have d:=Lib.below_iterAt (yG k w) (k:=k) (yd _) s pos;rw[d.block i (by omega)];exact h i o hi hb ho
theorem Nj(B b:Nat)(l:List UInt8)(s:Bs)(w:Wo)(h:zH B b l w)(hB:B<=w.heap.size)(hl:l.length<=10000000)(hs:s.size<=10000000):
  Calls prog 313 #[.string s,.pointer (some ⟨b,0,none⟩)] w fun e w'=>e= .returned (.tuple #[])/\zH B b (l++34 ::(rs s++[34])) w'/\Below B w w'/\Qy b w w':=by
 have hq:(Lib.byteCells l).length<=10000000:=by rw[yJ];exact hl
 have U:B<=b:=h.elim (fun x=>x.1) (fun x=>x.1);have Q:=h.lt;go_in;go_wp2_with fail;refine (Wc B b _ 34 _ h (by omega) hB).mono ?_;rintro e j ⟨rfl,r,O,R⟩;have Y:=O.size;have M:Hid (zH B b (l++[34]) (j.alloc (.stringIter s 0))):=(zH.byte (c:=34) rfl r).alloc _;have J:b<j.heap.size:=Lib.BuilderAt.lt r;have N:Hid (Qy b w (j.alloc (.stringIter s 0))):=Lib.OthersKept.alloc R _;clear r R h;go_wp2;go_loopw [] (fun wr=>∃ (a d:Nat) (i:List UInt8),zH B b i wr/\wr.heap[j.heap.size]?=some (.stringIter s a)/\Below B w wr/\Qy b w wr/\i++JS s d a=l++34 :: rs s/\s.size<=a+d/\i.length<=l.length+1+6*a) (fun wr=>s.size - wr.iterPos j.heap.size)
 case atStart=>
  refine⟨0,s.size,l++[34],uh M,?_,O.alloc (by omega) _,uh N,by simp[rs],by omega,by simp⟩;exact yF j _
 case round=>
  obtain⟨a,d,i,I,m,A,C,g,W,T⟩:=hrel;have Z:j.heap.size<wr.heap.size:=(yA.1 m).1;clear M N;have v:=zh C;clear C;by_cases D:a<s.size
  ·have L:∀ ty,(Instr.next (.pointer (some ⟨j.heap.size,0,none⟩)) true ty).run prog wr=_:=fun ty=>Lib.run_next_any_at wr j.heap.size s a ty m D;have aa:=Lib.decode_width_pos s a D;have K:=zaB s a;have X:=Mg (Utf8.decode s a).1;have z:=I.iterAt m (a+(Utf8.decode s a).2);have p:=Lib.iterAt_heap wr j.heap.size s a (a+(Utf8.decode s a).2) m;have o:=Lib.below_iterAt A (k:=j.heap.size) (by omega) s (a+(Utf8.decode s a).2);have q:B<=(wr.iterAt j.heap.size s (a+(Utf8.decode s a).2)).heap.size:=by rw[Lib.iterAt_size];omega
   obtain⟨f,rfl⟩:∃ f,d=f+1:=⟨d - 1,by omega⟩;have F:Hid ((i++pc (Utf8.decode s a).1)++JS s f (a+(Utf8.decode s a).2)=l++34 :: rs s):=by
    show _=_;rw[← g];simp[JS,D]
   have HC:=zh (zaz B b i (Utf8.decode s a).1 (wr.iterAt j.heap.size s (a+(Utf8.decode s a).2)) z q K (by omega));have n:=zh p;have G:=zh m;have u:=zh o;clear g I z p o q;go_wp2_with fail;refine (uh HC).mono ?_;rintro e S ⟨rfl,r,H,E⟩;go_wp2;go_roundw
   case rel=>exact⟨a+(Utf8.decode s a).2,f,i++pc (Utf8.decode s a).1,r,E.iter (uh n) (by omega),(uh u).trans H,(zaC (uh v) (by omega) _ _).trans E,uh F,by omega,by rw[yg];omega⟩
   case measure=>
    simp only[World.iterPos,E.iter (uh n) (by omega),uh G];omega
  ·have L:∀ ty,(Instr.next (.pointer (some ⟨j.heap.size,0,none⟩)) true ty).run prog wr=_:=fun ty=>Lib.run_next_end_at wr j.heap.size s a ty m D;rw[zaA s d a D,List.append_nil]at g;have F:=zh g;have P:(Lib.byteCells i).length<=100000000:=by
    rw[yJ,g];have V:∀ f a,(JS s f a).length<=6*f:=by
     intro f;induction f with
     | zero=>intro a;simp[JS]
     | succ f ih=>
      intro a;rw[JS];split
      ·rw[yg];have:=ih (a+(Utf8.decode s a).2);have:=Mg (Utf8.decode s a).1;omega
      ·simp
    have:=V s.size 0;simp[rs];omega
   clear g;go_wp2_with fail;refine (Wc B b _ 34 _ I (by omega) (by omega)).mono ?_;rintro e S ⟨rfl,r,H,E⟩;have y:=zH.byte (c:=34) rfl r;go_wp2;go_end0;refine⟨rfl,?_,A.trans H,(uh v).trans E⟩;rw[uh F]at y;simpa using y
def XE(ss:List Bs):Prop:=ss.length<=1048576/\∀ s∈ss,s.size<=1048576
theorem XE.at{ss:List Bs}(h:XE ss){j:Nat}(hj:j<ss.length):(ss.getD j ByteArray.empty).size<=1048576:=h.2 _ (by simp[List.getD,hj])
theorem XE.of{ss:List Bs}(h:ss.length+Z9 ss<=1048576):XE ss:=⟨by omega,fun s hs=>by
 obtain⟨j,a,rfl⟩:=List.getElem_of_mem hs;have b:=WU a;rw[show ss.getD j ByteArray.empty=ss[j] by simp[List.getD,a]]at b;omega⟩
theorem zaD(s:Bs)(w:Wo)(hML:ML w)(hsz:s.size<=1048576):
  Calls prog 91 #[.string s] w fun e w'=>e= .returned (.bool (zG s.data.toList).isSome)/\Bw w w':=by
 have a:=zh (Nh s w hML hsz);clear hML;generalize (zG s.data.toList).isSome=z at *;go_in;go_wp2_with fail;refine (uh a).mono ?_;rintro e h ⟨g,rfl,f,b⟩;have d:=zh b;clear a f b;go_wp2;go_ret;exact⟨rfl,uh d⟩
def zaI(x y:List UInt8):Bool:=NY x y || NY y x
end Go.Proofs.YtpaecnbdoljafaaGreatDoor
