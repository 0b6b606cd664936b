import Derived.Test.YtpaecnbdoljafaaGreatDoorRows
import Derived.Lib.SplitLaws
import Derived.BigQuiet
import Derived.Laws.AppendOwnNone
import Derived.Lib.TrimUEq
import Derived.Lib.ValidU
import Derived.Lib.RuneBytes
import Derived.Shelf.Strings.Builder1
import Derived.Shelf.Unicode.DecodeSlow
import Derived.Lib.OthersKept
import Derived.Room.AppendZeros
import Derived.Shelf.Small.Wraps
import Derived.ProofKit
import Derived.OpenShut
set_option maxRecDepth 100000
set_option maxHeartbeats 8000000
namespace Go.Proofs.YtpaecnbdoljafaaGreatDoor
open Go.RowKit
abbrev Bs:=ByteArray
abbrev Wo:=World
abbrev Bw(w w':Wo):=Below w.heap.size w w'
abbrev Rk(v:Value)(w:Wo)(e:Ending)(w':Wo):Prop:=e= .returned v/\w=w'
abbrev Rb(v:Value)(w:Wo)(e:Ending)(w':Wo):Prop:=e= .returned v/\Bw w w'
theorem yb.{u}:type_of% @beq_eq_false_iff_ne.{u}:=@beq_eq_false_iff_ne
theorem yd:type_of% @Nat.le_refl:=@Nat.le_refl
theorem ye.{u}:type_of% @if_neg.{u}:=@if_neg
theorem yf.{u}:type_of% @if_pos.{u}:=@if_pos
theorem yg.{u}:type_of% @List.length_append.{u}:=@List.length_append
theorem yh.{u,v}:type_of% @List.map_cons.{u,v}:=@List.map_cons
theorem yi:type_of% @decide_eq_true:=@decide_eq_true
theorem yj:type_of% @decide_eq_false:=@decide_eq_false
theorem yk.{u,v}:type_of% @List.length_map.{u,v}:=@List.length_map
theorem yl.{u}:type_of% @List.length_take.{u}:=@List.length_take
theorem ym.{u}:type_of% @List.length_cons.{u}:=@List.length_cons
theorem yo.{u}:type_of% @List.mem_cons_self.{u}:=@List.mem_cons_self
theorem yp.{u}:type_of% @List.take_of_length_le.{u}:=@List.take_of_length_le
theorem yq.{u}:type_of% @List.getElem_mem.{u}:=@List.getElem_mem
theorem yr:type_of% @Nat.zero_le:=@Nat.zero_le
theorem yt.{u}:type_of% @List.length_drop.{u}:=@List.length_drop
theorem yu.{u}:type_of% @List.mem_cons_of_mem.{u}:=@List.mem_cons_of_mem
theorem yv.{u,v}:type_of% @List.map_append.{u,v}:=@List.map_append
theorem yw.{u}:type_of% @List.getElem?_eq_getElem.{u}:=@List.getElem?_eq_getElem
theorem yx.{u}:type_of% @List.take_succ_eq_append_getElem.{u}:=@List.take_succ_eq_append_getElem
theorem yy.{u,v}:type_of% @Option.map_eq_some_iff.{u,v}:=@Option.map_eq_some_iff
theorem yz.{u,v}:type_of% @Option.bind_some.{u,v}:=@Option.bind_some
theorem yA.{u}:type_of% @Array.getElem?_eq_some_iff.{u}:=@Array.getElem?_eq_some_iff
theorem yB.{u}:type_of% @beq_iff_eq.{u}:=@beq_iff_eq
theorem yC.{u}:type_of% @List.length_nil.{u}:=@List.length_nil
theorem yD:type_of% @Nat.lt_of_lt_of_le:=@Nat.lt_of_lt_of_le
theorem yE:type_of% @Lib.cell_of_heap:=@Lib.cell_of_heap
theorem yF:type_of% @heap_alloc_new:=@heap_alloc_new
theorem yG:type_of% @Below.refl:=@Below.refl
theorem yH:type_of% @Lib.frozen_of_heap:=@Lib.frozen_of_heap
theorem yI:type_of% @World.block_lt_of_cell?:=@World.block_lt_of_cell?
theorem yJ:type_of% @Lib.byteCells_length:=@Lib.byteCells_length
theorem yK.{u}:type_of% @List.sum_cons.{u}:=@List.sum_cons
theorem yM.{u}:type_of% @List.eq_nil_of_length_eq_zero.{u}:=@List.eq_nil_of_length_eq_zero
theorem yN.{u,v}:type_of% @List.mem_map.{u,v}:=@List.mem_map
theorem yO:type_of% @Nat.le_trans:=@Nat.le_trans
theorem yP:type_of% @eq_false:=@eq_false
structure SS(w:Wo)(xa:Option Addr)(xb xo:Nat)(ss:List Bs):Prop where
 ad:0<ss.length->xa=some ⟨xb,xo,none⟩
 cell:∀ j,j<ss.length->w.cell? ⟨xb,xo+j,none⟩=some (.string (ss.getD j ByteArray.empty))
theorem SS.below{w w':Wo}{xa:Option Addr}{xb xo:Nat}{ss:List Bs}(h:SS w xa xb xo ss)(hb:Bw w w'):SS w' xa xb xo ss:=
 ⟨h.ad,fun j hj=>(hb.cell (p:=⟨xb,xo+j,none⟩) (yI _ _ (h.cell j hj))).trans (h.cell j hj)⟩
theorem zj{w w1 w2:Wo}(h:Bw w w1)(k:Bw w1 w2):Bw w w2:=h.trans (k.mono h.size)
def Z9(ss:List Bs):Nat:=(ss.map ByteArray.size).sum
theorem XG{ss:List Bs}{j:Nat}(hj:j<ss.length):ss.take (j+1)=ss.take j++[ss.getD j ByteArray.empty]:=by
 rw[List.take_add_one,yw hj];simp[List.getD,hj]
theorem Ml(ss:List Bs)(s:Bs):Z9 (ss++[s])=Z9 ss+s.size:=by simp[Z9]
theorem Mm(ss:List Bs)(k:Nat):Z9 (ss.take k)<=Z9 ss:=by
 have h:Z9 ss=Z9 (ss.take k)+Z9 (ss.drop k):=by
  unfold Z9;rw[← List.sum_append,← yv,List.take_append_drop]
 omega
theorem zh{p:Prop}(h:p):Hid p:=h
theorem uh{p:Prop}(h:Hid p):p:=h
theorem VP{k:IntKind}{a b:Int}(h:a=b):Ending.returned (.int k a)= .returned (.int k b):=by rw[h]
def Qz(c:UInt8):List UInt8:=if c.toNat=126 then [126,48]else if c.toNat=47 then [126,49]else [c]
def Zz(l:List UInt8):List UInt8:=l.flatMap Qz
def Zf(ss:List Bs):List UInt8:=ss.flatMap (fun s=>47 :: Zz s.data.toList)
theorem Mn(c:UInt8):(Qz c).length<=2:=by unfold Qz;split<;>(try split)<;>simp
theorem VQ(l:List UInt8):(Zz l).length<=2*l.length:=by
 induction l with
 | nil=>simp[Zz]
 | cons c l ih=>have:=Mn c;simp only[Zz,List.flatMap_cons,yg,ym]at *;omega
theorem Nn(l:List UInt8)(c:UInt8):Zz (l++[c])=Zz l++Qz c:=by simp[Zz]
theorem Np(ss:List Bs)(s:Bs):Zf (ss++[s])=Zf ss++47 :: Zz s.data.toList:=by simp[Zf]
theorem Zb(s:Bs):s.data.toList.length=s.size:=Array.length_toList
theorem Nq(ss:List Bs):(Zf ss).length<=ss.length+2*Z9 ss:=by
 induction ss with
 | nil=>simp[Zf,Z9]
 | cons s ss ih=>
  have:=VQ s.data.toList;have e:=Zb s;simp only[Zf,Z9,List.flatMap_cons,yg,ym,yh,yK]at *;omega
theorem WT(s:Bs)(k:Nat)(h:k<s.size):s.data.toList.take (k+1)=s.data.toList.take k++[s[k]]:=by
 rw[yx (by simpa using h)];rfl
theorem XH(s:Bs):s.data.toList.take s.size=s.data.toList:=yp (Nat.le_of_eq (Zb s))
theorem WU{ss:List Bs}{j:Nat}(hj:j<ss.length):Z9 (ss.take j)+(ss.getD j ByteArray.empty).size<=Z9 ss:=by
 have:=Mm ss (j+1);rw[XG hj,Ml]at this;exact this
theorem Nr{c:UInt8}(h:(c.toNat:Int)=126):Qz c=[126,48]:=by unfold Qz;rw[yf (by omega)]
theorem Ns{c:UInt8}(h:(c.toNat:Int)=47):Qz c=[126,49]:=by unfold Qz;rw[ye (by omega),yf (by omega)]
theorem XI{c:UInt8}(h:¬ (c.toNat:Int)=126)(h':¬ (c.toNat:Int)=47):Qz c=[c]:=by unfold Qz;rw[ye (by omega),ye (by omega)]
theorem VR:(Tryz.prog.info? 5).map (fun i=>(i.zero,i.size,i.bytes))=some (some (.int .u8 0),1,1):=by kernel_rfl
theorem UX{l:List UInt8}{j:Nat}(hj:j<l.length):(Lib.byteCells l)[j]?=some (.int .u8 (l[j].toNat:Int)):=by simp[Lib.byteCells,hj]
theorem QH(w:Wo)(t:TypeId)(x:Value):∀ j u,[x][j]?=some u->(w.alloc (.cells #[x] t)).cell? ((⟨w.heap.size,0,none⟩:Addr).add j)=some u:=by
 intro j u a
 match j,a with
 | 0,a=>simp at a;subst a;simp[Addr.add]
theorem Yq(w:Wo)(t:TypeId)(x y:Value):∀ j u,[x,y][j]?=some u->(w.alloc (.cells #[x,y] t)).cell? ((⟨w.heap.size,0,none⟩:Addr).add j)=some u:=by
 intro j u a
 match j,a with
 | 0,a=>simp at a;subst a;simp[Addr.add]
 | 1,a=>simp at a;subst a;simp[Addr.add]
theorem J8(k:IntKind)(a:Int):∀ u∈[Value.int k a],u.oneCell'=true:=by intro u b;simp at b;subst b;rfl
theorem YT(k:IntKind)(a b:Int):∀ u∈[Value.int k a,Value.int k b],u.oneCell'=true:=by
 intro u d;simp at d;rcases d with rfl | rfl<;>rfl
theorem qh{w1:Wo}{B e:Nat}{v':Value}{l m:List UInt8}{news:List Value}{k:Nat}(h:w1.ownsRow B e 1 v' ((Lib.byteCells l).length+k) (Lib.byteCells l++news))(hn:news=Lib.byteCells m)(hk:k=m.length):
  w1.ownsRow B e 1 v' (Lib.byteCells (l++m)).length (Lib.byteCells (l++m)):=by
 subst hn;subst hk;rw[Lib.byteCells_append];have:(Lib.byteCells l++Lib.byteCells m).length=(Lib.byteCells l).length+m.length:=by simp[Lib.byteCells]
 rw[this];exact h
theorem VS{w:Wo}{B:Nat}{v:Value}{l:List UInt8}(h:w.ownsRow B 5 1 v (Lib.byteCells l).length (Lib.byteCells l)):(convert 22 9 v).run Tryz.prog w= .ok (.string ⟨l.toArray⟩) w:=by
 have i:=yJ l;rcases h.2 with ⟨b,k⟩ |⟨g,a,d,b,_⟩
 ·have f:l=[]:=yM (by omega);subst b;subst f;exact run_convert_bytes_nil (P:=Tryz.prog) w 22 5 Tryz.underlying22 Tryz.underlying5 0 0 9 Tryz.underlying9
 ·subst b;rw[i]at h ⊢;exact run_convert_bytes_back (P:=Tryz.prog) w 22 9 5 ⟨g,0,none⟩ a l Tryz.underlying22 Tryz.underlying5 Tryz.underlying9 (fun j hj=>by
   rw[show ((⟨g,0,none⟩:Addr).add j)=⟨g,j,none⟩from by simp[Addr.add];omega,h.cellAt j (by omega)];exact UX hj)
def zJ:List UInt8->Option (List UInt8)
 | []=>some []
 | c :: r=>
  if c.toNat=126 then
   match r with
   | []=>none
   | d :: r'=>if d.toNat=48 then (zJ r').map (126 :: ·)else if d.toNat=49 then (zJ r').map (47 :: ·)else none
  else (zJ r).map (c :: ·)
theorem UY{c:UInt8}(r:List UInt8)(h:¬ (c.toNat:Int)=126):zJ (c :: r)=(zJ r).map ([c]++·):=by
 rw[zJ.eq_def];simp only;rw[ye (by omega)];rfl
theorem UZ{c:UInt8}(h:(c.toNat:Int)=126):zJ [c]=none:=by
 rw[zJ.eq_def];simp only;rw[yf (by omega)]
theorem U0{c d:UInt8}(r:List UInt8)(h:(c.toNat:Int)=126)(h':(d.toNat:Int)=48):zJ (c :: d :: r)=(zJ r).map ([126]++·):=by
 rw[zJ.eq_def];simp only;rw[yf (by omega),yf (by omega)];rfl
theorem U1{c d:UInt8}(r:List UInt8)(h:(c.toNat:Int)=126)(h':(d.toNat:Int)=49):zJ (c :: d :: r)=(zJ r).map ([47]++·):=by
 rw[zJ.eq_def];simp only;rw[yf (by omega),ye (by omega),yf (by omega)];rfl
theorem U2{c d:UInt8}(r:List UInt8)(h:(c.toNat:Int)=126)(h':¬ (d.toNat:Int)=48)(h'':¬ (d.toNat:Int)=49):zJ (c :: d :: r)=none:=by
 rw[zJ.eq_def];simp only;rw[yf (by omega),ye (by omega),ye (by omega)]
def QI(l:List UInt8)(j:Nat)(acc:List UInt8):Prop:=zJ l=(zJ (l.drop j)).map (acc++·)
theorem QI.start(l:List UInt8):QI l 0 []:=by simp[QI]
theorem QI.step{l:List UInt8}{j k:Nat}{acc m:List UInt8}(h:QI l j acc)(hs:zJ (l.drop j)=(zJ (l.drop k)).map (m++·)):QI l k (acc++m):=by
 unfold QI at *;rw[h,hs,Option.map_map];congr 1;funext x;simp
theorem QI.bad{l:List UInt8}{j:Nat}{acc:List UInt8}(h:QI l j acc)(hs:zJ (l.drop j)=none):zJ l=none:=by
 unfold QI at h;rw[h,hs];rfl
theorem QI.fin{l:List UInt8}{j:Nat}{acc:List UInt8}(h:QI l j acc)(hj:l.length<=j):zJ l=some acc:=by
 unfold QI at h;rw[h,List.drop_eq_nil_of_le hj];simp[zJ]
theorem qT(s:Bs)(j:Nat)(h:j<s.size):s.data.toList.drop j=s[j] :: s.data.toList.drop (j+1):=by
 rw[List.drop_eq_getElem_cons (by rw[Zb];exact h)];rfl
theorem GK(s:Bs)(j:Nat)(h:¬ j<s.size):s.data.toList.drop j=[]:=List.drop_eq_nil_of_le (by rw[Zb];omega)
def U3(o:Option (List UInt8)):Value:=.tuple #[.string ⟨(o.getD []).toArray⟩,.bool o.isSome]
def ZH:List UInt8->List (List UInt8)
 | []=>[[]]
 | c :: r=>if c.toNat=47 then [] :: ZH r else (match ZH r with | []=>[[c]] | p :: ps=>(c :: p) :: ps)
theorem GL(l:List UInt8):ZH l≠[]:=by
 cases l with
 | nil=>simp[ZH]
 | cons c r=>
  rw[ZH];split
  ·simp
  ·split<;>simp
theorem GM{c:UInt8}(r:List UInt8)(h:c.toNat=47):ZH (c :: r)=[] :: ZH r:=by rw[ZH,yf h]
theorem Vh{c:UInt8}{r p:List UInt8}{ps:List (List UInt8)}(h:¬ c.toNat=47)(hr:ZH r=p :: ps):ZH (c :: r)=(c :: p) :: ps:=by rw[ZH,ye h,hr]
theorem Nt:∀ l:List UInt8,Lib.splitK [47] 0 (Lib.count l [47]) l=ZH l
 | []=>by rw[Lib.count_miss (by simp[Lib.index])];rfl
 | c :: r=>by
  have ih:=Nt r;by_cases h:c=47
  ·subst h;have a:Lib.index (47 :: r) [47]=((0:Nat):Int):=by rw[Lib.index];simp[List.isPrefixOf]
   rw[Lib.count_cons_eq,Nat.add_comm,Lib.splitK,a];rw[GM r (by decide),← ih];simp
  ·have k:([47]:List UInt8).isPrefixOf (c :: r)=false:=by simp[List.isPrefixOf,Ne.symm h]
   have a:Lib.index (c :: r) [47]=if Lib.index r [47] == -1 then -1 else Lib.index r [47]+1:=by rw[Lib.index,k];simp
   have g:¬ c.toNat=47:=fun e=>h (by have:=UInt8.ofNat_toNat (x:=c);rw[e]at this;exact this.symm);rw[Lib.count_cons_ne c 47 r h];by_cases f:Lib.index r [47]= -1
   ·rw[Lib.count_miss f]at ih ⊢;rw[Lib.splitK]at ih ⊢;rw[Vh g ih.symm]
   ·have i:=Lib.index_ge r [47];obtain⟨j,d⟩:∃ j:Nat,Lib.index r [47]=j:=⟨(Lib.index r [47]).toNat,by omega⟩;have b:Lib.index (c :: r) [47]=((j+1:Nat):Int):=by rw[a,ye (fun e=>f (yB.1 e)),d];omega
    rw[Lib.count_hit (by simp) d,Nat.add_comm]at ih ⊢;rw[Lib.splitK,d]at ih;rw[Lib.splitK,b];rw[ye (fun e=>by have:=yB.1 e;omega)]at ih ⊢;simp only[Int.toNat_natCast,Nat.add_zero]at ih ⊢;rw[Vh g ih.symm];simp
theorem Mo(s:Bs):(Lib.splitB ⟨#[47]⟩ 0 (Lib.countB s ⟨#[47]⟩) s).map (·.data.toList)=ZH s.data.toList:=by
 rw[Lib.splitB_data];exact Nt _
def Qc(l:List UInt8):Option (List (List UInt8)):=(ZH l).mapM zJ
def zG:List UInt8->Option (List (List UInt8))
 | []=>some []
 | c :: r=>if c.toNat=47 then Qc r else none
theorem ZI{w w1:Wo}{B e size n:Nat}{v:Value}{xs:List Value}(h:w.ownsRow B e size v n xs)(hb:Bw w w1):w1.ownsRow B e size v n xs:=by
 refine⟨h.1,?_⟩;rcases h.2 with f |⟨g,a,b,j,i,d,r⟩
 ·exact .inl f
 ·exact .inr ⟨g,a,b,j,i,(hb.block g (yA.1 d).1).trans d,r⟩
theorem JB{w:Wo}{B B' e size n:Nat}{v:Value}{xs:List Value}(h:w.ownsRow B e size v n xs)(hB:B'<=B):w.ownsRow B' e size v n xs:=by
 refine⟨h.1,?_⟩;rcases h.2 with d |⟨g,a,b,i,f,r⟩
 ·exact .inl d
 ·exact .inr ⟨g,a,b,i,yO hB f,r⟩
theorem XJ:(Tryz.prog.info? 9).map (fun i=>(i.zero,i.size,i.bytes))=some (some (.string ByteArray.empty),1,16):=by kernel_rfl
def GN(t:List UInt8):Value:=.string ⟨t.toArray⟩
abbrev OT(w:Wo)(B:Nat)(v:Value)(ts:List (List UInt8)):Prop:=w.ownsRow B 9 1 v ts.length (ts.map GN)
def Zc(t:List UInt8):Bs:=⟨t.toArray⟩
theorem OT.shape{w:Wo}{B:Nat}{v:Value}{ts:List (List UInt8)}(h:OT w B v ts):∃ a g cap,v= .slice a ts.length cap/\SS w a g 0 (ts.map Zc)/\(0<ts.length->B<=g):=by
 rcases h.2 with ⟨b,f⟩ |⟨g,cap,d,b,i,k,_⟩
 ·exact⟨none,0,0,by rw[b,f],⟨fun h=>by rw[yk]at h;omega,fun j hj=>by rw[yk]at hj;omega⟩,fun h=>by omega⟩
 ·refine⟨some ⟨g,0,none⟩,g,cap,b,⟨fun _=>rfl,fun j hj=>?_⟩,fun _=>i⟩;subst b;rw[yk]at hj;rw[Nat.zero_add,h.cellAt j (by omega)];simp[GN,Zc,hj]
theorem U4(s:Bs):∀ u∈[Value.string s],u.oneCell'=true:=by intro u a;simp at a;subst a;rfl
theorem OT.step{w:Wo}{B:Nat}{v:Value}{ts:List (List UInt8)}{t:List UInt8}(h:w.ownsRow B 9 1 v (ts.length+1) (ts.map GN++[GN t])):OT w B v (ts++[t]):=by
 unfold OT;rw[yg,yv];exact h
theorem XK(t:List UInt8):U3 (some t)= .tuple #[.string (Zc t),.bool true]:=rfl
theorem XL:U3 none= .tuple #[.string ⟨#[]⟩,.bool false]:=rfl
def Qp(l:List UInt8)(f k:Nat):Prop:=∀ m,f<=m->m<k->∀ c,l[m]?=some c->¬ c.toNat=47
theorem Mp{p:List UInt8}(hp:∀ c∈p,¬ c.toNat=47){c:UInt8}(hc:c.toNat=47)(r:List UInt8):ZH (p++c :: r)=p :: ZH r:=by
 induction p with
 | nil=>exact GM r hc
 | cons a p ih=>
  have:=ih (fun c hc=>hp c (yu _ hc));exact Vh (hp a yo) this
theorem Mq{p:List UInt8}(hp:∀ c∈p,¬ c.toNat=47):ZH p=[p]:=by
 induction p with
 | nil=>rfl
 | cons a p ih=>
  have:=ih (fun c hc=>hp c (yu _ hc));exact Vh (hp a yo) this
theorem Qp.piece{l:List UInt8}{f k:Nat}(h:Qp l f k):∀ c∈(l.drop f).take (k - f),¬ c.toNat=47:=by
 intro c a;obtain⟨i,b,rfl⟩:=List.mem_iff_getElem.1 a;rw[yl,yt]at b;refine h (f+i) (by omega) (by omega) _ ?_;rw[List.getElem_take,List.getElem_drop,yw (by omega)]
theorem Qp.cut{l:List UInt8}{f k:Nat}(h:Qp l f k)(hfk:f<=k)(hk:k<l.length)(hc:l[k].toNat=47):ZH (l.drop f)=(l.drop f).take (k - f) :: ZH (l.drop (k+1)):=by
 have e:l.drop f=(l.drop f).take (k - f)++l[k] :: l.drop (k+1):=by
  have a:=(List.take_append_drop (k - f) (l.drop f)).symm;rw[List.drop_drop,show f+(k - f)=k from by omega,List.drop_eq_getElem_cons hk]at a;exact a
 have b:=Mp h.piece hc (l.drop (k+1));rw[← e]at b;exact b
theorem Qp.last{l:List UInt8}{f:Nat}(h:Qp l f l.length):ZH (l.drop f)=[l.drop f]:=by
 have a:=h.piece;rw[yp (by rw[yt];omega)]at a;exact Mq a
theorem Qp.snoc{l:List UInt8}{f k:Nat}(h:Qp l f k)(hk:k<l.length)(hc:¬ l[k].toNat=47):Qp l f (k+1):=by
 intro m b d c a;by_cases e:m=k
 ·subst e;rw[yw hk]at a;simp at a;subst a;exact hc
 ·exact h m b (by omega) c a
theorem Qp.none(l:List UInt8)(k:Nat):Qp l k k:=fun m h1 h2=>by omega
theorem U5{l p:List UInt8}{ps:List (List UInt8)}(h:ZH l=p :: ps):Qc l=(zJ p).bind fun t=>(ps.mapM zJ).map (t :: ·):=by
 unfold Qc;rw[h,List.mapM_cons]
 cases zJ p with
 | none=>rfl
 | some t=>cases List.mapM zJ ps<;>rfl
def QY(l:List UInt8)(f:Nat)(done:List (List UInt8)):Prop:=Qc (l.drop 1)=(Qc (l.drop f)).map (done++·)
theorem QY.cut{l:List UInt8}{f k:Nat}{done:List (List UInt8)}{t:List UInt8}(h:QY l f done)(hn:Qp l f k)(hfk:f<=k)(hk:k<l.length)(hc:l[k].toNat=47)(hu:zJ ((l.drop f).take (k - f))=some t):QY l (k+1) (done++[t]):=by
 unfold QY at *;rw[h,U5 (hn.cut hfk hk hc),hu];show Option.map (done++·) (Option.map (t :: ·) (Qc (l.drop (k+1))))=_
 rw[Option.map_map];congr 1;funext x;simp
theorem QY.cutBad{l:List UInt8}{f k:Nat}{done:List (List UInt8)}(h:QY l f done)(hn:Qp l f k)(hfk:f<=k)(hk:k<l.length)(hc:l[k].toNat=47)(hu:zJ ((l.drop f).take (k - f))=none):Qc (l.drop 1)=none:=by
 unfold QY at h;rw[h,U5 (hn.cut hfk hk hc),hu];rfl
theorem QY.last{l:List UInt8}{f:Nat}{done:List (List UInt8)}{t:List UInt8}(h:QY l f done)(hn:Qp l f l.length)(hu:zJ ((l.drop f).take (l.length - f))=some t):Qc (l.drop 1)=some (done++[t]):=by
 rw[yp (by rw[yt];omega)]at hu;unfold QY at h;rw[h,U5 hn.last,hu];rfl
theorem QY.lastBad{l:List UInt8}{f:Nat}{done:List (List UInt8)}(h:QY l f done)(hn:Qp l f l.length)(hu:zJ ((l.drop f).take (l.length - f))=none):Qc (l.drop 1)=none:=by
 rw[yp (by rw[yt];omega)]at hu;unfold QY at h;rw[h,U5 hn.last,hu];rfl
theorem Nu{l:List UInt8}(h0:0<l.length)(hc:l[0].toNat=47):zG l=Qc (l.drop 1):=by
 cases l with
 | nil=>simp at h0
 | cons c r=>simp only[List.getElem_cons_zero]at hc;rw[zG,yf hc];rfl
theorem Nv{l:List UInt8}(h0:0<l.length)(hc:¬ l[0].toNat=47):zG l=none:=by
 cases l with
 | nil=>simp at h0
 | cons c r=>simp only[List.getElem_cons_zero]at hc;rw[zG,ye hc]
theorem U6(s:Bs)(f k:Nat):(s.extract f k).data.toList=(s.data.toList.drop f).take (k - f):=by
 exact Lib.extract_data s f k
structure BS(w:Wo)(xa:Option Addr)(xb xo:Nat)(l:List UInt8):Prop where
 ad:0<l.length->xa=some ⟨xb,xo,none⟩
 cell:∀ j,j<l.length->w.cell? ⟨xb,xo+j,none⟩=some (.int .u8 (l.getD j 0).toNat)
theorem BS.grown{w w':Wo}{xa:Option Addr}{xb xo:Nat}{l:List UInt8}{r:Option Nat}(h:BS w xa xb xo l)(hg:w.grownBy w' r)(hne:0<l.length->some xb≠r):BS w' xa xb xo l:=
 ⟨h.ad,fun j hj=>hg.cell (h.cell j hj) (hne (by omega))⟩
theorem BS.below{w w':Wo}{xa:Option Addr}{xb xo:Nat}{l:List UInt8}(h:BS w xa xb xo l)(hb:Bw w w'):BS w' xa xb xo l:=
 ⟨h.ad,fun j hj=>(hb.cell (p:=⟨xb,xo+j,none⟩) (yI _ _ (h.cell j hj))).trans (h.cell j hj)⟩
theorem BS.take{w:Wo}{xa:Option Addr}{xb xo:Nat}{l:List UInt8}(h:BS w xa xb xo l)(n:Nat):BS w xa xb xo (l.take n):=
 ⟨fun h0=>h.ad (by rw[yl]at h0;omega),fun j hj=>by
  rw[yl]at hj;rw[h.cell j (by omega)];simp[List.getD,show j<n from by omega]⟩
def JC(w:Wo)(B rb:Nat):Prop:=∃ (a:Option Addr) (c p:Nat) (l:List UInt8) (bb bo:Nat),w.heap[rb]?=some (.cells #[.slice a l.length c,.int .i64 p] 115 (0,0))/\B<=rb/\p<=l.length+300/\l.length<=1200/\BS w a bb bo l/\(0<l.length->bb<B)
theorem JC.lt{w:Wo}{B rb:Nat}(h:JC w B rb):rb<w.heap.size:=by
 obtain⟨a,c,p,l,d,f,b,_⟩:=h;exact (yA.1 b).1
theorem JC.grown{w w':Wo}{B rb:Nat}{r:Option Nat}(h:JC w B rb)(hg:w.grownBy w' r)(hne:some rb≠r)(hB:∀ k,r=some k->B<=k):JC w' B rb:=by
 have b:=h.lt;obtain⟨a,c,p,l,d,g,o,i,j,m,n,f⟩:=h;exact⟨a,c,p,l,d,g,(hg.block rb b hne).trans o,i,j,m,n.grown hg (fun h0 e=>by have:=hB d e.symm;have:=f h0;omega),f⟩
theorem J9{w w1 w2:Wo}{r:Option Nat}(h:w.grownBy w1 r)(k:w1.grownBy w2 r):w.grownBy w2 r:=
 ⟨k.os.trans h.os,k.tape.trans h.tape,k.output.trans h.output,yO h.size k.size,fun j hj hne=>(k.block j (yD hj h.size) hne).trans (h.block j hj hne)⟩
theorem VT{w w1 w2:Wo}{r:Option Nat}{s:Option Nat}(h:w.grownBy w1 r)(k:w1.grownBy w2 s)(hs:∀ j,s=some j->w.heap.size<=j):w.grownBy w2 r:=
 ⟨k.os.trans h.os,k.tape.trans h.tape,k.output.trans h.output,yO h.size k.size,fun j hj hne=>(k.block j (yD hj h.size) (fun e=>by have:=hs j e.symm;omega)).trans (h.block j hj hne)⟩
theorem VU{w w1:Wo}{r:Option Nat}(h:Bw w w1):w.grownBy w1 r:=⟨h.os,h.tape,h.output,h.size,fun k hk _=>h.block k hk⟩
theorem Mr(w:Wo)(rb:Nat)(x y z:Value)(T:TypeId)(h:w.heap[rb]?=some (.cells #[x,y] T (0,0))):(w.setCell ⟨rb,1,none⟩ z).heap[rb]?=some (.cells #[x,z] T (0,0)):=by
 have:=heap_setCell_same w rb 1 #[x,y] T z h;simpa using this
theorem Nw(w:Wo)(n rb i:Nat)(z:Value):w.grownBy ((w.drewN n).setCell ⟨rb,i,none⟩ z) (some rb):=
 ⟨rfl,rfl,rfl,by simp[World.setCell],fun k _ hne=>Below.heap_setCell (w.drewN n) ⟨rb,i,none⟩ z k (fun e=>hne (by rw[e]))⟩
theorem U7(w:Wo)(n:Nat)(r:Option Nat):w.grownBy (w.drewN n) r:=⟨rfl,rfl,rfl,yd _,fun _ _ _=>rfl⟩
def Small(ts:List (List UInt8)):Prop:=∀ t∈ts,t.length<=3
theorem GO{w w1:Wo}{B e size n:Nat}{v:Value}{xs:List Value}{r:Option Nat}(h:w.ownsRow B e size v n xs)(hg:w.grownBy w1 r)(hr:∀ k,r=some k->k<B):w1.ownsRow B e size v n xs:=by
 refine h.kept hg ?_
 cases hv:v.ownBlock with
 | none=>exact .inl rfl
 | some k=>refine .inr (fun e=>?_);have:=(h.lt k hv).1;have:=hr k e.symm;omega
theorem OT.cells{w:Wo}{B:Nat}{v:Value}{ts:List (List UInt8)}(h:OT w B v ts):(v= .slice none 0 0/\ts=[])∨∃ g cap,v= .slice (some ⟨g,0,none⟩) ts.length cap/\(∀ j u,(ts.map GN)[j]?=some u->w.cell? ((⟨g,0,none⟩:Addr).add j)=some u):=by
 rcases h.2 with ⟨a,d⟩ |⟨g,cap,b,a,_⟩
 ·exact .inl ⟨a,yM d⟩
 ·refine .inr ⟨g,cap,a,fun j u hj=>?_⟩;subst a;exact World.ownsRow.cells h rfl j u hj
end Go.Proofs.YtpaecnbdoljafaaGreatDoor
namespace Go.Proofs.YtpaecnbdoljafaaGreatDoor
open Go.RowKit Go.Lib
def bt(s:Bs)(i:Nat):Nat:=(s.data.toList.getD i 0).toNat
theorem ZL(s:Bs)(i:Nat):bt s i<256:=UInt8.toNat_lt _
theorem Zg(s:Bs)(i:Nat)(h:i<s.size):bt s i=s[i].toNat:=by
 unfold bt;have:s.data.toList[i]?=some s[i]:=by rw[yw (by rw[Zb];exact h)];rfl
 rw[List.getD_eq_getElem?_getD,this];rfl
theorem JT(s:Bs)(i:Nat):Utf8.decode s i=decodeN (s.size - i) (bt s i) (bt s (i+1)) (bt s (i+2)) (bt s (i+3)):=by
 rw[decode_N,Zb];rfl
def QA(n b0 b1 b2 b3:Nat):Nat:=if b0<128 then 1 else if (decodeN n b0 b1 b2 b3).2=1 then 0 else (decodeN n b0 b1 b2 b3).2
def rl(s:Bs)(i:Nat):Nat:=QA (s.size - i) (bt s i) (bt s (i+1)) (bt s (i+2)) (bt s (i+3))
theorem U8{n b0 b1 b2 b3:Nat}(h:b0<128):QA n b0 b1 b2 b3=1:=by simp[QA,h]
theorem XM{n b0 b1 b2 b3:Nat}(h:128<=b0)(h':b0<192):QA n b0 b1 b2 b3=0:=by
 unfold QA decodeN;rw[ye (by omega)]
 repeat' split
 all_goals first | rfl |(exfalso;omega) |(simp at *;done) |(exfalso;simp at *;omega)
theorem GQ{n b0 b1 b2 b3:Nat}(h:192<=b0)(h':b0<224)(hb1:b1<256):
  QA n b0 b1 b2 b3=if 2<=n/\128<=b1/\b1<192/\128<=(b0 - 192)*64+(b1 - 128)then 2 else 0:=by
 unfold QA decodeN;rw[ye (by omega)]
 repeat' split
 all_goals first | rfl | omega |(exfalso;omega) |(exfalso;simp at *;omega)
theorem GR{n b0 b1 b2 b3:Nat}(h:224<=b0)(h':b0<240)(hb1:b1<256)(hb2:b2<256):
  QA n b0 b1 b2 b3=if 3<=n/\128<=b1/\b1<192/\128<=b2/\b2<192/\2048<=(b0 - 224)*4096+(b1 - 128)*64+(b2 - 128)/\((b0 - 224)*4096+(b1 - 128)*64+(b2 - 128)<55296∨57344<=(b0 - 224)*4096+(b1 - 128)*64+(b2 - 128))then 3 else 0:=by
 unfold QA decodeN;rw[ye (by omega)]
 repeat' split
 all_goals first | rfl | omega |(exfalso;omega) |(exfalso;simp at *;omega)
theorem GT{n b0 b1 b2 b3:Nat}(h:240<=b0)(h':b0<256)(hb1:b1<256)(hb2:b2<256)(hb3:b3<256):
  QA n b0 b1 b2 b3=if 4<=n/\128<=b1/\b1<192/\128<=b2/\b2<192/\128<=b3/\b3<192/\65536<=(b0 - 240)*262144+(b1 - 128)*4096+(b2 - 128)*64+(b3 - 128)/\(b0 - 240)*262144+(b1 - 128)*4096+(b2 - 128)*64+(b3 - 128)<=1114111 then 4 else 0:=by
 unfold QA decodeN;rw[ye (by omega)]
 repeat' split
 all_goals first | rfl | omega |(exfalso;omega) |(exfalso;simp at *;omega)
end Go.Proofs.YtpaecnbdoljafaaGreatDoor
namespace Go.Proofs.YtpaecnbdoljafaaGreatDoor
open Go.RowKit
def zT(b:Nat):Bool:=decide (48<=b) && decide (b<=57)
theorem qL{b:Nat}:zT b=true↔48<=b/\b<=57:=by simp[zT]
def Z0(l:List UInt8):Nat:=l.foldl (fun v c=>v*10+(c.toNat - 48)) 0
theorem GU(l:List UInt8)(c:UInt8):Z0 (l++[c])=Z0 l*10+(c.toNat - 48):=by unfold Z0;rw[List.foldl_append];rfl
theorem Nx(s:Bs)(k:Nat)(h:k<s.size):s.data.toList[k]'(by rw[Zb];exact h)=s[k]:=rfl
theorem Ny:∀ (n:Nat) (t:List UInt8),t.length=n->Z0 t<10 ^ n∨¬ (∀ c∈t,zT c.toNat=true):=by
 intro n;induction n with
 | zero=>intro t h;rw[yM h];exact .inl (by simp[Z0])
 | succ n ih=>
  intro t h;rcases List.eq_nil_or_concat t with e |⟨a,c,e⟩
  ·subst e;simp at h
  ·rw[List.concat_eq_append]at e;subst e;by_cases b:∀ x∈a++[c],zT x.toNat=true
   ·left;have f:=qL.1 (b c (by simp));rcases ih a (by simpa using h)with d | d
    ·rw[GU,Nat.pow_succ];omega
    ·exact absurd (fun x hx=>b x (by simp[hx])) d
   ·exact .inr b
def ZN(r:Nat):List Nat:=
 if r<128 then [r]else if r<2048 then [192+r / 64,128+r % 64]
 else if r<65536 then [224+r / 4096,128+r / 64 % 64,128+r % 64]
 else [240+r / 262144,128+r / 4096 % 64,128+r / 64 % 64,128+r % 64]
def Zu(r:Nat):List UInt8:=(ZN r).map UInt8.ofNat
def zi(l:List UInt8):Bs:=⟨l.toArray⟩
theorem Zd(l:List UInt8):(zi l).data.toList=l:=by simp[zi]
theorem zS(l:List UInt8):(zi l).size=l.length:=by rw[← Zb,Zd]
theorem VW(w:Wo)(l:List UInt8)(cs:Array Value)(n:Nat)(hn:n=l.length)(hcs:cs.toList=Lib.byteCells l):
  (convert 22 9 (.slice (some ⟨w.heap.size,0,none⟩) n n)).run Tryz.prog (w.alloc (.cells cs 5))= .ok (.string (zi l)) (w.alloc (.cells cs 5)):=by
 subst hn;exact run_convert_bytes_back (P:=Tryz.prog) _ 22 9 5 ⟨w.heap.size,0,none⟩ l.length l Tryz.underlying22 Tryz.underlying5 Tryz.underlying9 (fun j hj=>by
  rw[Go.WideShapes.add_plain,cell_of_row _ w.heap.size (0+j) cs 5 (0,0) (yF w _),Nat.zero_add];have h:=UX hj;rw[← hcs]at h;simpa using h)
theorem Nz(r:Nat)(w:Wo)(hr:r<=1114111):
  Calls Tryz.prog 161 #[.int .i64 r] w fun e w'=>e= .returned (.string (zi (Zu r)))/\Bw w w':=by
 by_cases a:r<128
 ·have d:=VW w (Zu r) #[.int .u8 (r:Int)] 1 (by simp[Zu,ZN,a]) (by simp[Zu,ZN,a,Lib.byteCells];omega);have b:(r:Int)<128:=by omega
  generalize Zu r=u at *;go_in;go_wp2;go_ret;exact⟨rfl,(yG _ _).alloc (yd _) _⟩
 ·by_cases f:r<2048
  ·have d:=VW w (Zu r) #[.int .u8 (192+(r:Int) / 64),.int .u8 (128+(r:Int) % 64)] 2 (by simp[Zu,ZN,a,f]) (by simp[Zu,ZN,a,f,Lib.byteCells];omega);have b:¬ (r:Int)<128:=by omega
   have g:(r:Int)<2048:=by omega
   generalize Zu r=u at *;go_in;go_wp2;go_ret;exact⟨rfl,(yG _ _).alloc (yd _) _⟩
  ·by_cases h:r<65536
   ·have d:=VW w (Zu r) #[.int .u8 (224+(r:Int) / 4096),.int .u8 (128+(r:Int) / 64 % 64),.int .u8 (128+(r:Int) % 64)] 3 (by simp[Zu,ZN,a,f,h]) (by simp[Zu,ZN,a,f,h,Lib.byteCells];omega);have b:¬ (r:Int)<128:=by omega
    have g:¬ (r:Int)<2048:=by omega
    have i:(r:Int)<65536:=by omega
    generalize Zu r=u at *;go_in;go_wp2;go_ret;exact⟨rfl,(yG _ _).alloc (yd _) _⟩
   ·have d:=VW w (Zu r) #[.int .u8 (240+(r:Int) / 262144),.int .u8 (128+(r:Int) / 4096 % 64),.int .u8 (128+(r:Int) / 64 % 64),.int .u8 (128+(r:Int) % 64)] 4 (by simp[Zu,ZN,a,f,h]) (by simp[Zu,ZN,a,f,h,Lib.byteCells];omega);have b:¬ (r:Int)<128:=by omega
    have g:¬ (r:Int)<2048:=by omega
    have i:¬ (r:Int)<65536:=by omega
    generalize Zu r=u at *;go_in;go_wp2;go_ret;exact⟨rfl,(yG _ _).alloc (yd _) _⟩
def QJ:List UInt8:=[48,49,50,51,52,53,54,55,56,57,97,98,99,100,101,102]
def qB(c:UInt8):List UInt8:=
 if c.toNat=34∨c.toNat=92 then [92,c]else if c.toNat=8 then [92,98]else if c.toNat=9 then [92,116]else if c.toNat=10 then [92,110]
 else if c.toNat=12 then [92,102]else if c.toNat=13 then [92,114]else if c.toNat<32 then [92,117,48,48,QJ.getD (c.toNat / 16) 0,QJ.getD (c.toNat % 16) 0]else [c]
theorem XN(c:UInt8):(qB c).length<=6:=by
 unfold qB
 repeat' split
 all_goals simp
def qs(l:List UInt8):List UInt8:=l.flatMap qB
def quoted(l:List UInt8):List UInt8:=34 ::(qs l++[34])
theorem Ms(l:List UInt8)(c:UInt8):qs (l++[c])=qs l++qB c:=by simp[qs]
theorem U9(l m:List UInt8):qs (l++m)=qs l++qs m:=by simp[qs]
theorem NA(l:List UInt8):(qs l).length<=6*l.length:=by
 induction l with
 | nil=>simp[qs]
 | cons c l ih=>have:=XN c;simp only[qs,List.flatMap_cons,yg,ym]at *;omega
theorem GV{c:UInt8}(h:(c.toNat:Int)=34∨(c.toNat:Int)=92):qB c=[92,c]:=by unfold qB;rw[yf (by omega)]
theorem XO{c:UInt8}(h:(c.toNat:Int)=8):qB c=[92,98]:=by unfold qB;rw[ye (by omega),yf (by omega)]
theorem XP{c:UInt8}(h:(c.toNat:Int)=9):qB c=[92,116]:=by unfold qB;rw[ye (by omega),ye (by omega),yf (by omega)]
theorem XQ{c:UInt8}(h:(c.toNat:Int)=10):qB c=[92,110]:=by unfold qB;rw[ye (by omega),ye (by omega),ye (by omega),yf (by omega)]
theorem XR{c:UInt8}(h:(c.toNat:Int)=12):qB c=[92,102]:=by unfold qB;rw[ye (by omega),ye (by omega),ye (by omega),ye (by omega),yf (by omega)]
theorem XS{c:UInt8}(h:(c.toNat:Int)=13):qB c=[92,114]:=by unfold qB;rw[ye (by omega),ye (by omega),ye (by omega),ye (by omega),ye (by omega),yf (by omega)]
def GW(n:Nat):Prop:=n<32/\¬ n=8/\¬ n=9/\¬ n=10/\¬ n=12/\¬ n=13
theorem XT{c:UInt8}(h:GW c.toNat):qB c=[92,117,48,48,QJ.getD (c.toNat / 16) 0,QJ.getD (c.toNat % 16) 0]:=by
 obtain⟨a,b,d,f,g,i⟩:=h;unfold qB;rw[ye (by omega),ye b,ye d,ye f,ye g,ye i,yf a]
theorem Ka{c:UInt8}(h:¬ c.toNat=34)(h':¬ c.toNat=92)(h'':32<=c.toNat):qB c=[c]:=by
 unfold qB;rw[ye (by omega),ye (by omega),ye (by omega),ye (by omega),ye (by omega),ye (by omega),ye (by omega)]
theorem Kb(k:Nat)(h:k<16):(⟨QJ.toArray⟩:Bs)[k]'(by show k<16;exact h)=QJ.getD k 0:=by
 rcases (show k=0∨k=1∨k=2∨k=3∨k=4∨k=5∨k=6∨k=7∨k=8∨k=9∨k=10∨k=11∨k=12∨k=13∨k=14∨k=15 from by omega)with rfl | rfl | rfl | rfl | rfl | rfl | rfl | rfl | rfl | rfl | rfl | rfl | rfl | rfl | rfl | rfl<;>rfl
theorem Kc:∀ l:List UInt8,(∀ c∈l,128<=c.toNat)->qs l=l
 | [],_=>rfl
 | c :: l,h=>by
  have h1:=h c yo;have a:=Kc l (fun d hd=>h d (yu _ hd));show qB c++qs l=c :: l
  rw[Ka (by omega) (by omega) (by omega),a];rfl
def QT(s:Bs)(k:Nat)(c:Int):Bool:=match s.data.toList[k]? with
 | some x=>(x.toNat:Int) ==c
 | none=>false
theorem XU(s:Bs)(k:Nat)(h:k<s.size):s.data.toList[k]?=some s[k]:=by
 rw[yw (by rw[Zb];exact h)];rfl
theorem Yr{s:Bs}{k:Nat}{c:Int}(h:k<s.size):QT s k c=((s[k].toNat:Int) ==c):=by
 unfold QT;rw[XU s k h]
theorem GY{s:Bs}{k:Nat}{c:Int}(h:¬ k<s.size):QT s k c=false:=by
 unfold QT;rw[List.getElem?_eq_none (by rw[Zb];omega)]
theorem NB{a b:Bool}(h:a=b):Ending.returned (.bool a)= .returned (.bool b):=by rw[h]
theorem Vi(s:Bs)(i:Int)(k:Nat)(hik:i=(k:Int))(c:Int)(w:Wo):
  Calls Tryz.prog 66 #[.string s,.int .i64 i,.int .u8 c] w fun e w'=>e= .returned (.bool (QT s k c))/\w=w':=by
 subst hik;by_cases h:k<s.size
 ·have a:=zh (Yr (c:=c) h);have b:(k:Int)<(s.size:Int):=by omega
  go_in;go_wp2;go_ret;exact⟨NB (by rw[uh a]),rfl⟩
 ·have a:=zh (GY (c:=c) h);have b:decide ((k:Int)<(s.size:Int))=false:=by simp;omega
  go_in;go_wp2;go_ret;exact⟨NB (by rw[uh a]),rfl⟩
theorem GZ(l:List UInt8):∀ u∈Lib.byteCells l,u.oneCell'=true:=by
 intro u a;simp only[Lib.byteCells,yN]at a;obtain⟨b,_,rfl⟩:=a;rfl
theorem G1(w:Wo)(l:List UInt8):∃ cap W,(convert 9 22 (.string (zi l))).run Tryz.prog w= .ok (.slice (some ⟨w.heap.size,0,none⟩) l.length cap) W /\
  (∀ j u,(Lib.byteCells l)[j]?=some u->W.cell? ((⟨w.heap.size,0,none⟩:Addr).add j)=some u)/\Bw w W/\(∀ (B e:Nat) v n xs,w.ownsRow B e 1 v n xs->W.ownsRow B e 1 v n xs)/\w.heap.size<=W.heap.size:=by
 have h:=run_bytes_of_string (P:=Tryz.prog) w 9 22 5 (zi l) Tryz.underlying9 Tryz.underlying22 Tryz.underlying5;have a:(zi l).size=l.length:=zS l;refine⟨_,_,(by rw[h,a]),?_,?_,?_,?_⟩
 ·intro j u b;have d:j<l.length:=by
   have:=(List.getElem?_eq_some_iff.1 b).1
   rwa [yJ]at this
  have k:(zi l).data.size=l.length:=by simp[zi]
  have f:=bytesRow_at (zi l) (grownCap w (zi l).size 0 5) j (by omega);rw[Go.WideShapes.add_plain,show (0:Nat)+j=j from by omega];have g:(w.drew.alloc (.cells (bytesRow (zi l) (grownCap w (zi l).size 0 5)) 5 ((bytesRow (zi l) (grownCap w (zi l).size 0 5)).size,(bytesRow (zi l) (grownCap w (zi l).size 0 5)).size+1))).heap[w.heap.size]?=some (.cells (bytesRow (zi l) (grownCap w (zi l).size 0 5)) 5 ((bytesRow (zi l) (grownCap w (zi l).size 0 5)).size,(bytesRow (zi l) (grownCap w (zi l).size 0 5)).size+1)):=yF w.drew _;rw[a]at g f;rw[cell_of_row _ w.heap.size j _ 5 _ g,f];rw[UX d]at b;rw[← b];simp[zi]
 ·exact ((yG _ _).drew).alloc (yd _) _
 ·intro B e v n xs i;exact World.ownsRow.alloc (w:=w.drew) i _
 ·show w.heap.size<=(w.heap.push _).size
  simp
theorem NC(s:Bs)(w:Wo)(hs:s.size<=1048576):
  Calls Tryz.prog 89 #[.string s] w fun e w'=>e= .returned (U3 (zJ s.data.toList))/\Bw w w':=by
 obtain⟨L,J,z,A,B⟩:=info_parts VR;go_in;go_wp2;go_loopw [4,5] (fun v i wr=>∃ (j:Nat) (h:List UInt8),j<=s.size/\i= .int .i64 j/\wr.ownsRow w.heap.size 5 1 v (Lib.byteCells h).length (Lib.byteCells h)/\Bw w wr/\(Lib.byteCells h).length<=j/\QI s.data.toList j h) (fun _ i _=>s.size - (intOf i).toNat)
 case atStart=>exact⟨0,[],yr _,rfl,World.ownsRow_lit w #[] 0 (yd _) (by unfold maxLen;omega) rfl,(yG _ _).alloc (yd _) _,yd _,QI.start _⟩
 case round=>
  obtain⟨j,h,R,rfl,b,H,y,F⟩:=hrel;have q:=H.size;have C:=zh F;clear F;by_cases K:j<s.size
  ·have r:=qT s j K;have x:=zh H;clear H;by_cases d:(s[j].toNat:Int)=126
   ·have Q:((s[j].toNat:Int) !=126)=false:=by simpa using d
    by_cases u:j+1<s.size
    ·have o:=qT s (j+1) u;by_cases l:(s[j+1].toNat:Int)=48
     ·have I:QT s (j+1) 48=true:=by rw[Yr u];simpa using l
      have E:Hid (zJ (s.data.toList.drop j)=(zJ (s.data.toList.drop (j+2))).map ([126]++·)):=by show _=_;rw[r,o,U0 _ d l]
      clear l;clear d r o;go_wp2_with (first |(go_at_call 66;refine (Vi s _ (j+1) (by omega) _ _).mono ?_;rintro e w' ⟨rfl,rfl⟩) |(at_builtin;refine wpList_append_own _ rfl (.tmp 27) (.tmp 28) 22 rfl w.heap.size 5 L (.int .u8 0) 1 1 Tryz.underlying22 J z A B rfl (by decide) _ _ _ rfl (b.alloc _) ⟨wr.heap.size,0,none⟩ 1 1 [.int .u8 126] rfl rfl (QH _ _ _) (J8 _ _) (by unfold maxLen;omega) (by omega) (by simp;omega) ?_));intro O G f a _;have p:Bw w G:=((uh x).alloc q _).grown a (by simp;omega) (fun k hk=>(b.lt k hk).1);have g:=qh (m:=[126]) f (by simp[Lib.byteCells]) rfl;clear f a b x;go_wp2;go_roundw
      case rel=>exact⟨j+2,h++[126],by omega,by go_num,g,p,by simp[Lib.byteCells]at y ⊢;omega,(uh C).step (uh E)⟩
      case measure=>simp[intOf];omega
     ·by_cases n:(s[j+1].toNat:Int)=49
      ·have I:QT s (j+1) 48=false:=by rw[Yr u];simpa using l
       have M:QT s (j+1) 49=true:=by rw[Yr u];simpa using n
       have E:Hid (zJ (s.data.toList.drop j)=(zJ (s.data.toList.drop (j+2))).map ([47]++·)):=by show _=_;rw[r,o,U1 _ d n]
       clear l n;clear d r o;go_wp2_with (first |(go_at_call 66;refine (Vi s _ (j+1) (by omega) _ _).mono ?_;rintro e w' ⟨rfl,rfl⟩) |(at_builtin;refine wpList_append_own _ rfl (.tmp 36) (.tmp 37) 22 rfl w.heap.size 5 L (.int .u8 0) 1 1 Tryz.underlying22 J z A B rfl (by decide) _ _ _ rfl (b.alloc _) ⟨wr.heap.size,0,none⟩ 1 1 [.int .u8 47] rfl rfl (QH _ _ _) (J8 _ _) (by unfold maxLen;omega) (by omega) (by simp;omega) ?_));intro O G f a _;have p:Bw w G:=((uh x).alloc q _).grown a (by simp;omega) (fun k hk=>(b.lt k hk).1);have g:=qh (m:=[47]) f (by simp[Lib.byteCells]) rfl;clear f a b x;go_wp2;go_roundw
       case rel=>exact⟨j+2,h++[47],by omega,by go_num,g,p,by simp[Lib.byteCells]at y ⊢;omega,(uh C).step (uh E)⟩
       case measure=>simp[intOf];omega
      ·have I:QT s (j+1) 48=false:=by rw[Yr u];simpa using l
       have M:QT s (j+1) 49=false:=by rw[Yr u];simpa using n
       have D:=zh ((uh C).bad (by rw[r,o,U2 _ d l n]));clear d l n r o b;go_wp2_with (go_at_call 66;refine (Vi s _ (j+1) (by omega) _ _).mono ?_;rintro e w' ⟨rfl,rfl⟩);go_ret2;exact⟨by rw[uh D];rfl,uh x⟩
    ·have I:QT s (j+1) 48=false:=GY u;have M:QT s (j+1) 49=false:=GY u;have D:=zh ((uh C).bad (by rw[r,GK s (j+1) u,UZ d]));clear d r b;go_wp2_with (go_at_call 66;refine (Vi s _ (j+1) (by omega) _ _).mono ?_;rintro e w' ⟨rfl,rfl⟩);go_ret2;exact⟨by rw[uh D];rfl,uh x⟩
   ·have Q:((s[j].toNat:Int) !=126)=true:=by simpa using d
    have E:Hid (zJ (s.data.toList.drop j)=(zJ (s.data.toList.drop (j+1))).map ([s[j]]++·)):=by show _=_;rw[r,UY _ d]
    clear d r;go_wp2_with (at_builtin;refine wpList_append_own _ rfl (.tmp 17) (.tmp 21) 22 rfl w.heap.size 5 L (.int .u8 0) 1 1 Tryz.underlying22 J z A B rfl (by decide) _ _ _ rfl (b.alloc _) ⟨wr.heap.size,0,none⟩ 1 1 [.int .u8 s[j].toNat] rfl rfl (QH _ _ _) (J8 _ _) (by unfold maxLen;omega) (by omega) (by simp;omega) ?_);intro O G f a _;have p:Bw w G:=((uh x).alloc q _).grown a (by simp;omega) (fun k hk=>(b.lt k hk).1);have g:=qh (m:=[s[j]]) f (by simp[Lib.byteCells]) rfl;clear f a b x;go_wp2;go_roundw
    case rel=>exact⟨j+1,h++[s[j]],by omega,by go_num,g,p,by simp[Lib.byteCells]at y ⊢;omega,(uh C).step (uh E)⟩
    case measure=>simp[intOf];omega
  ·have N:=(uh C).fin (by rw[Zb];omega);have D:=zh N;have P:=VS b;clear N b;go_wp2;go_ret2;exact⟨by rw[uh D];rfl,H⟩
theorem Kd(s:Bs)(w:Wo)(hs:s.size<=1048576):
  Calls Tryz.prog 41 #[.string s] w fun e w'=>∃ v,e= .returned (.tuple #[v,.bool (zG s.data.toList).isSome])/\OT w' w.heap.size v ((zG s.data.toList).getD [])/\Bw w w':=by
 obtain⟨i0,hi,Q,R,S⟩:=info_parts XJ;have g:=World.ownsRow_lit (base:=w.heap.size) (e:=9) (size:=1) w #[] 0 (yd _) (by unfold maxLen;omega) rfl;have r:Bw w (w.alloc (.cells #[] 9)):=(yG _ _).alloc (yd _) _;by_cases W:s.size=0
 ·have aa:s=⟨#[]⟩:=by
   have:s.data.toList=[]:=yM (by rw[Zb];exact W);obtain⟨⟨l⟩⟩:=s;simp at this;subst this;rfl
  subst aa;have O:=zh g;clear g W;go_in;go_wp2;go_ret2;exact⟨_,rfl,uh O,r⟩
 ·have hne:s.toList.isEmpty=false:=by
   rw[Lib.toList_data,List.isEmpty_eq_false_iff];intro e;exact W (by rw[← Zb,e];rfl)
  have h0':0<s.size:=by omega
  have hdl:=Zb s;by_cases A:(s[0].toNat:Int)=47
  ·have t1:((s[0].toNat:Int) !=47)=false:=by simpa using A
   have F:Hid (zG s.data.toList=Qc (s.data.toList.drop 1)):=Nu (by omega) (by show s[0].toNat=47;omega);have O:=zh g;clear g A;generalize hl:s.data.toList=l at *;have T:=zh hl;clear hl;go_in;go_wp2;go_loopw [4,5,6] (fun v fr i wr=>∃ (k f:Nat) (a:List (List UInt8)),1<=k/\k<=s.size+1/\1<=f/\f<=k/\i= .int .i64 k/\fr= .int .i64 f/\a.length<=k/\OT wr w.heap.size v a/\Bw w wr/\(k<=s.size->Qp l f k/\QY l f a)/\(k=s.size+1->Qc (l.drop 1)=some a)) (fun _ _ i _=>s.size+1 - (intOf i).toNat)
   case atStart=>exact⟨1,1,[],by omega,by omega,by omega,by omega,rfl,rfl,by simp,uh O,r,fun _=>⟨Qp.none _ _,by simp[QY]⟩,fun h=>by omega⟩
   case round=>
    obtain⟨k,f,a,hk1,hk2,Y,P,rfl,rfl,hdl2,j,I,u,hZ⟩:=hrel;have x:=I.size;have N:=zh u;have U:=zh hZ;clear u hZ O;by_cases J:k<=s.size
    ·by_cases Z:k=s.size
     ·have u:=uh N J;have D:k=l.length:=by omega
      have q:Qp l f l.length:=by rw[← D];exact u.1
      subst Z;have t2:((s.size:Int) ==(s.size:Int))=true:=by simp
      have K:(s.extract f s.size).size<=1048576:=by rw[← Zb,U6,yl,yt,Zb];omega
      have p:=U6 s f s.size;rw[uh T]at p;have C:=NC (s.extract f s.size) wr K;rw[p]at C
      cases ho:zJ ((l.drop f).take (s.size - f))with
      | none=>
       rw[ho,XL]at C;have HC:=zh C;have z:Hid (Qc (l.drop 1)=none):=by have:=u.2.lastBad q (by rw[← D];exact ho);exact this
       clear C ho p u q D N U;go_wp2_with fail;refine (uh HC).mono ?_;rintro e M ⟨rfl,d⟩;have y:=I.trans (d.mono x);have m:=World.ownsRow_lit (base:=w.heap.size) (e:=9) (size:=1) M #[] 0 y.size (by unfold maxLen;omega) rfl;have H:=zh m;clear j d HC m;go_wp2;go_ret2;exact⟨_,by rw[uh F,uh z];rfl,by rw[uh F,uh z];exact uh H,y.alloc y.size _⟩
      | some t=>
       rw[ho,XK]at C;have HC:=zh C;have z:Hid (Qc (l.drop 1)=some (a++[t])):=by have:=u.2.last q (by rw[← D];exact ho);exact this
       clear u q D N U C ho p;go_wp2_with fail;refine (uh HC).mono ?_;rintro e M ⟨rfl,d⟩;have y:=I.trans (d.mono x);have o:=ZI j d;have L:=y.size;clear j d HC;go_wp2_with (at_builtin;(refine wpList_append_own _ rfl (.tmp 44) (.tmp 46) 30 rfl w.heap.size 9 i0 (.string ByteArray.empty) 1 16 Tryz.underlying30 hi Q R S rfl (by decide) _ _ _ rfl (o.alloc _) ⟨M.heap.size,0,none⟩ 1 1 [.string (Zc t)] rfl rfl (QH _ _ _) (U4 _) (by unfold maxLen;omega) (by omega) (by simp;omega) ?_));intro v2 w2 n b _;have V:Bw w w2:=(y.alloc L _).grown b (by simp;omega) (fun k hk=>(o.lt k hk).1);have E:=OT.step (t:=t) n;clear n b o;go_wp2;go_roundw
       case rel=>exact⟨s.size+1,s.size+1,a++[t],by omega,by omega,by omega,by omega,by go_num,by go_num,by simp;omega,E,V,fun h=>by omega,fun _=>uh z⟩
       case measure=>simp[intOf]
     ·have hlt:k<s.size:=by omega
      have t2:((k:Int) ==(s.size:Int))=false:=by simp;omega
      by_cases X:(s[k].toNat:Int)=47
      ·have t3:((s[k].toNat:Int) ==47)=true:=by simpa using X
       have u:=uh N J;have B:k<l.length:=by omega
       have G:l[k].toNat=47:=by
                        have e:l[k].toNat=s[k].toNat:=by (have e:=uh T;subst e;rfl)
                        omega
       have K:(s.extract f k).size<=1048576:=by rw[← Zb,U6,yl,yt,Zb];omega
       have p:=U6 s f k;rw[uh T]at p;have C:=NC (s.extract f k) wr K;rw[p]at C
       cases ho:zJ ((l.drop f).take (k - f))with
       | none=>
        rw[ho,XL]at C;have HC:=zh C;have z:Hid (Qc (l.drop 1)=none):=u.2.cutBad u.1 P B G ho;clear C ho p;go_wp2_with fail;refine (uh HC).mono ?_;rintro e M ⟨rfl,d⟩;have y:=I.trans (d.mono x);have m:=World.ownsRow_lit (base:=w.heap.size) (e:=9) (size:=1) M #[] 0 y.size (by unfold maxLen;omega) rfl;have H:=zh m;clear j d HC m;go_wp2;go_ret2;exact⟨_,by rw[uh F,uh z];rfl,by rw[uh F,uh z];exact uh H,y.alloc y.size _⟩
       | some t=>
        rw[ho,XK]at C;have HC:=zh C;have z:=zh (u.2.cut u.1 P B G ho);clear u B G X N U;clear C ho p;go_wp2_with fail;refine (uh HC).mono ?_;rintro e M ⟨rfl,d⟩;have y:=I.trans (d.mono x);have o:=ZI j d;have L:=y.size;clear j d HC;go_wp2_with (at_builtin;refine wpList_append_own _ rfl (.tmp 44) (.tmp 46) 30 rfl w.heap.size 9 i0 (.string ByteArray.empty) 1 16 Tryz.underlying30 hi Q R S rfl (by decide) _ _ _ rfl (o.alloc _) ⟨M.heap.size,0,none⟩ 1 1 [.string (Zc t)] rfl rfl (QH _ _ _) (U4 _) (by unfold maxLen;omega) (by omega) (by simp;omega) ?_);intro v2 w2 n b _;have V:Bw w w2:=(y.alloc L _).grown b (by simp;omega) (fun k hk=>(o.lt k hk).1);have E:=OT.step (t:=t) n;clear n b o;go_wp2;go_roundw
        case rel=>exact⟨k+1,k+1,a++[t],by omega,by omega,by omega,by omega,by go_num,by go_num,by simp;omega,E,V,fun _=>⟨Qp.none _ _,uh z⟩,fun h=>by omega⟩
        case measure=>simp[intOf];omega
      ·have t3:((s[k].toNat:Int) ==47)=false:=by simpa using X
       go_wp2;go_roundw
       case rel=>
        have ⟨hn,ht⟩:=uh N J;have B:k<l.length:=by omega
        have G:l[k].toNat=s[k].toNat:=by have e:=uh T;subst e;rfl
        exact⟨k+1,f,a,by omega,by omega,Y,by omega,by go_num,rfl,by omega,j,I,fun _=>⟨hn.snoc B (by omega),ht⟩,fun h=>by omega⟩
       case measure=>simp[intOf];omega
    ·have z:=zh (uh U (by omega));go_wp2;go_ret2;exact⟨_,by rw[uh F,uh z];rfl,by rw[uh F,uh z];exact j,I⟩
  ·have t1:((s[0].toNat:Int) !=47)=true:=by simpa using A
   have F:Hid (zG s.data.toList=none):=Nv (by omega) (fun e=>A (by show ((s[0].toNat:Int))=47;have:s.data.toList[0].toNat=s[0].toNat:=rfl;omega));have O:=zh g;clear g A;go_in;go_wp2;go_ret2;exact⟨_,by rw[uh F];rfl,by rw[uh F];exact uh O,r⟩
theorem SS.drewN{w:Wo}{xa:Option Addr}{xb xo:Nat}{ss:List Bs}(h:SS w xa xb xo ss)(n:Nat):SS (w.drewN n) xa xb xo ss:=⟨h.ad,h.cell⟩
theorem ND:(Tryz.prog.info? 149).map (·.size)=some 2:=by kernel_rfl
theorem Mt:liesAt Tryz.prog Tryz.prog.depth 149 (2 / Tryz.prog.cellsOf 149) 0 149 1=true:=by kernel_rfl
theorem infoByte:(Tryz.prog.info? 5).map (fun i=>(i.zero,i.size,i.bytes))=some (some (.int .u8 0),1,1):=by kernel_rfl
theorem NE(b:Nat)(w:Wo)(h0:w.cell? ⟨b,0,none⟩=some (.pointer (some ⟨b,0,none⟩))):
  Calls Tryz.prog 219 #[.pointer (some ⟨b,0,none⟩)] w fun e w'=>e= .returned (.tuple #[])/\w'=w:=by
 obtain⟨j,a,_⟩:=yy.1 ND;go_in;go_wp2;rw[Lib.run_neq_ptr_same w _ Tryz.underlying147 a];go_wp2;go_end0;exact⟨rfl,rfl⟩
theorem NG(b:Nat)(w:Wo)(h0:w.cell? ⟨b,0,none⟩=some (.pointer none))(hsh:w.shape? b=some (149,2))(hfz:w.frozen? ⟨b,0,none⟩=false):
  Calls Tryz.prog 219 #[.pointer (some ⟨b,0,none⟩)] w fun e w'=>e= .returned (.tuple #[])/\w'=w.setCell ⟨b,0,none⟩ (.pointer (some ⟨b,0,none⟩)):=by
 obtain⟨j,d,a⟩:=yy.1 ND;go_in;go_wp2;rw[Lib.run_to_unsafe w ⟨b,0,none⟩ Tryz.underlying147 Tryz.underlying188 d (by rw[a];decide) hsh (Nat.zero_lt_succ 1)];simp only[Result.andThen];rw[Oper.upon_value];go_wp2;rw[run_callFunc_extern Tryz.func245 (by kernel_rfl) (by kernel_rfl) (by kernel_rfl) (e:=Extern.AbiNoEscape.same) (by kernel_rfl)];rw[Lib.run_noEscape];simp only[Result.andThen];rw[Oper.upon_value];go_wp2;rw[Lib.run_from_unsafe w ⟨b,0,none⟩ Tryz.underlying188 Tryz.underlying147 d hsh Mt];simp only[Result.andThen];rw[Oper.upon_value];go_wp2;go_end0;exact⟨rfl,rfl⟩
theorem NH(B b:Nat)(bs:List Value)(w:Wo)(h:Lib.IsBuilder 149 5 B b bs w):
  Calls Tryz.prog 219 #[.pointer (some ⟨b,0,none⟩)] w fun e w'=>e= .returned (.tuple #[])/\(Lib.BuilderAt 149 5 B b (.pointer (some ⟨b,0,none⟩)) bs w'/\Below B w w'):=by
 rcases h with h | h
 ·refine (NG b w h.cell0 h.shape h.frozen0).mono ?_;rintro e w' ⟨rfl,rfl⟩;exact⟨rfl,h.used _,(yG B w).setCell (p:=⟨b,0,none⟩) h.1 _⟩
 ·refine (NE b w h.cell0).mono ?_;rintro e w' ⟨rfl,rfl⟩;exact⟨rfl,h,yG B _⟩
theorem WV(B b:Nat)(bs:List Value)(c:Int)(w:Wo)(h:Lib.IsBuilder 149 5 B b bs w)(hlen:bs.length+1<=140737488355328)(hBw:B<=w.heap.size):
  Calls Tryz.prog 186 #[.pointer (some ⟨b,0,none⟩),.int .u8 c] w fun e w'=>e= .returned .nilIface/\(Lib.BuilderAt 149 5 B b (.pointer (some ⟨b,0,none⟩)) (bs++[.int .u8 c]) w'/\Below B w w'):=by
 obtain⟨J,H,z,A,C⟩:=info_parts infoByte;go_in;go_wp2_with (go_at_call 219;refine (NH B b bs _ h).mono ?_);rintro e o ⟨rfl,G,i⟩;obtain⟨D,v,m,n,y⟩:=G;have c0:o.cell? ⟨b,0,none⟩=some (.pointer (some ⟨b,0,none⟩)):=by rw[yE m];rfl
 have c1:o.cell? ⟨b,1,none⟩=some v:=by rw[yE m];rfl
 go_wp2_with (at_builtin;refine wpList_append_own _ rfl _ _ 22 rfl B 5 J (.int .u8 0) 1 1 Tryz.underlying22 H z A C rfl (by decide) _ _ _ rfl (n.alloc _) ⟨o.heap.size,0,none⟩ 1 1 [.int .u8 c] rfl rfl ?c1 ?c2 ?c3 ?c4 ?c5 ?_)
 case c1=>
  intro j u q
  match j,q with
  | 0,q=>simp at q;subst q;simp[Addr.add]
 case c2=>intro u E;simp at E;subst E;rfl
 case c3=>unfold maxLen;omega
 case c4=>omega
 case c5=>have:=i.size;simp;omega
 intro K r d a _;have x:b<o.heap.size:=by
  rcases Nat.lt_or_ge b o.heap.size with s | s
  ·exact s
  ·simp[Array.getElem?_eq_none s]at m
 have l:r.heap[b]?=some (.cells #[.pointer (some ⟨b,0,none⟩),v] 149 (0,0)):=by
  rw[a.block b (by simp;omega) (fun e=>y e.symm),Lib.alloc_old o _ b x];exact m
 have L:r.cell? ⟨b,0,none⟩=some (.pointer (some ⟨b,0,none⟩)):=by rw[yE l];rfl
 have M:r.cell? ⟨b,1,none⟩=some v:=by rw[yE l];rfl
 have N:r.frozen? ⟨b,1,none⟩=false:=yH l 1;obtain⟨g,f,rfl⟩:∃ g f,K= .slice (some ⟨g,0,none⟩) (bs.length+1) f:=by
  rcases d.2 with ⟨_,O⟩ |⟨g,f,F,I,_⟩
  ·omega
  ·exact⟨g,f,I⟩
 go_wp2;go_ret;refine⟨rfl,?_,?_⟩
 ·exact Lib.BuilderAt.put (T:=149) (e:=5) D l (bs':=bs++[.int .u8 c]) (by simpa using d) (by decide)
 ·exact ((i.alloc (by have:=i.size;omega) _).grown a (by have:=i.size;simp;omega) (fun k hk=>(n.lt k hk).1)).setCell (p:=⟨b,1,none⟩) D _
theorem NI(B b:Nat)(bs:List Value)(s:Bs)(w:Wo)(h:Lib.IsBuilder 149 5 B b bs w)(hlen:bs.length+s.size<=140737488355328)(hBw:B<=w.heap.size):
  Calls Tryz.prog 194 #[.pointer (some ⟨b,0,none⟩),.string s] w fun e w'=>e= .returned (.tuple #[.int .i64 s.size,.nilIface])/\(Lib.BuilderAt 149 5 B b (.pointer (some ⟨b,0,none⟩)) (bs++Lib.strCells s) w'/\Below B w w'):=by
 obtain⟨I,H,y,z,A⟩:=info_parts infoByte;go_in;go_wp2_with (go_at_call 219;refine (NH B b bs _ h).mono ?_);rintro e n ⟨rfl,G,m⟩;obtain⟨D,v,i,j,u⟩:=G;have c0:n.cell? ⟨b,0,none⟩=some (.pointer (some ⟨b,0,none⟩)):=by rw[yE i];rfl
 have c1:n.cell? ⟨b,1,none⟩=some v:=by rw[yE i];rfl
 go_wp2_with (at_builtin;refine Lib.wpList_append_own_string _ rfl _ _ 22 9 rfl B 5 I Tryz.underlying22 Tryz.underlying9 H y z A _ _ _ rfl j s rfl ?c3 ?c4 ?c5 ?_)
 case c3=>unfold maxLen;omega
 case c4=>omega
 case c5=>have:=m.size;omega
 intro J o d a _;have r:b<n.heap.size:=by
  rcases Nat.lt_or_ge b n.heap.size with q | q
  ·exact q
  ·simp[Array.getElem?_eq_none q]at i
 have f:o.heap[b]?=some (.cells #[.pointer (some ⟨b,0,none⟩),v] 149 (0,0)):=by
  rw[a.block b r (fun e=>u e.symm)];exact i
 have K:o.cell? ⟨b,0,none⟩=some (.pointer (some ⟨b,0,none⟩)):=by rw[yE f];rfl
 have L:o.cell? ⟨b,1,none⟩=some v:=by rw[yE f];rfl
 have M:o.frozen? ⟨b,1,none⟩=false:=yH f 1;obtain⟨C,E,l,rfl⟩:∃ C E l,J= .slice C E l:=by
  rcases d.2 with ⟨x,_⟩ |⟨g,l,F,x,_⟩
  ·exact⟨_,_,_,x⟩
  ·exact⟨_,_,_,x⟩
 go_wp2;go_ret2;refine⟨rfl,?_,?_⟩
 ·exact Lib.BuilderAt.put (T:=149) (e:=5) D f (bs':=bs++Lib.strCells s) (by simpa [Lib.strCells_length]using d) (by decide)
 ·exact (m.grown a (by have:=m.size;omega) (fun k hk=>(j.lt k hk).1)).setCell (p:=⟨b,1,none⟩) D _
open Go.Shelf in
def NJ:Go.Shelf.Ren:=⟨fun | 169=>81 | n=>n,fun | 70=>147 | 9=>9 | 0=>0 | 72=>149 | 37=>22 | 127=>201 | 3=>3 | 5=>5 | n=>n,fun | n=>n⟩
theorem Mu:Go.Proofs.Lays.n169 Tryz.prog NJ:={
 mixed:=by kernel_rfl
 f169:=Tryz.func81.trans (congrArg some (by kernel_rfl))
 t0:=Tryz.underlying0
 a0:=Tryz.isAgg0
 z0:=Tryz.sizeOf0
 v0:=Tryz.zeroValue0
 t3:=Tryz.underlying3
 a3:=Tryz.isAgg3
 z3:=Tryz.sizeOf3
 v3:=Tryz.zeroValue3
 t9:=Tryz.underlying9
 a9:=Tryz.isAgg9
 z9:=Tryz.sizeOf9
 v9:=Tryz.zeroValue9
 t37:=Tryz.underlying22
 a37:=Tryz.isAgg22
 z37:=Tryz.sizeOf22
 v37:=Tryz.zeroValue22
 t70:=Tryz.underlying147
 a70:=Tryz.isAgg147
 z70:=Tryz.sizeOf147
 v70:=Tryz.zeroValue147
 t72:=Tryz.underlying149
 a72:=Tryz.isAgg149
 z72:=Tryz.sizeOf149
 v72:=Tryz.zeroValue149
 t127:=Tryz.underlying201
 a127:=Tryz.isAgg201
 z127:=Tryz.sizeOf201
 v127:=Tryz.zeroValue201}
theorem Mv:Builder.Extra Tryz.prog NJ:={
 sizeBuilder:=by kernel_rfl
 liesBuilder:=by kernel_rfl
 t5:=Tryz.underlying5
 a5:=Tryz.isAgg5
 z5:=Tryz.sizeOf5
 v5:=Tryz.zeroValue5
 infoByte:=by kernel_rfl
 cellsByte:=by kernel_rfl
 sizeByte:=by kernel_rfl
 neB5:=by decide}
theorem WW(B b:Nat)(l:List UInt8)(w:Wo)(h:Lib.IsBuilder 149 5 B b (Lib.byteCells l) w)(hBw:B<=w.heap.size):
  Calls Tryz.prog 81 #[.pointer (some ⟨b,0,none⟩)] w fun e w'=>e= .returned (.string ⟨l.toArray⟩)/\Below B w w':=Any.Builder_String_any Mu Mv B b l w h hBw
abbrev zH(B b:Nat)(l:List UInt8)(w:Wo):Prop:=Lib.IsBuilder 149 5 B b (Lib.byteCells l) w
theorem zH.byte{B b:Nat}{l:List UInt8}{c:UInt8}{w:Wo}{n:Int}(hn:n=(c.toNat:Int))(h:Lib.BuilderAt 149 5 B b (.pointer (some ⟨b,0,none⟩)) (Lib.byteCells l++[.int .u8 n]) w):zH B b (l++[c]) w:=by
 subst hn;exact Or.inr (by rw[Lib.byteCells_append];exact h)
theorem zH.str{B b:Nat}{l:List UInt8}{s:Bs}{m:List UInt8}{w:Wo}(hm:m=s.data.toList)(h:Lib.BuilderAt 149 5 B b (.pointer (some ⟨b,0,none⟩)) (Lib.byteCells l++Lib.strCells s) w):zH B b (l++m) w:=by
 subst hm;exact Or.inr (by rw[Lib.byteCells_append];exact h)
theorem zH.cells{B b:Nat}{l m:List UInt8}{xs:List Value}{w:Wo}(hx:xs=Lib.byteCells m)(h:Lib.BuilderAt 149 5 B b (.pointer (some ⟨b,0,none⟩)) (Lib.byteCells l++xs) w):zH B b (l++m) w:=by
 subst hx;exact Or.inr (by rw[Lib.byteCells_append];exact h)
theorem Mw(s:Bs)(w:Wo)(hs:s.size<=1048576):
  Calls Tryz.prog 138 #[.string s] w fun e w'=>e= .returned (U3 (zJ s.data.toList))/\Bw w w':=by
 go_in;go_wp2;go_loopw [5] (fun i wr=>∃ (j:Nat) (b:List UInt8),j<=s.size/\i= .int .i64 j/\zH w.heap.size w.heap.size b wr/\Bw w wr/\(Lib.byteCells b).length<=j/\QI s.data.toList j b) (fun i _=>s.size - (intOf i).toNat)
 case atStart=>exact⟨0,[],yr _,rfl,Lib.fresh_isBuilder _ _ w,(yG _ _).alloc (yd _) _,yd _,QI.start _⟩
 case round=>
  obtain⟨j,b,E,rfl,n,q,p,x⟩:=hrel;have g:=q.size;have r:=zh x;clear x;by_cases y:j<s.size
  ·have o:=qT s j y;by_cases a:(s[j].toNat:Int)=126
   ·have C:((s[j].toNat:Int) !=126)=false:=by simpa using a
    by_cases l:j+1<s.size
    ·have k:=qT s (j+1) l;have B:((j:Int)+1 ==(s.size:Int))=false:=by simp;omega
     by_cases d:(s[j+1].toNat:Int)=48
     ·have A:((s[j+1].toNat:Int) ==48)=true:=by simpa using d
      have v:Hid (zJ (s.data.toList.drop j)=(zJ (s.data.toList.drop (j+2))).map ([126]++·)):=by show _=_;rw[o,k,U0 _ a d]
      clear a d o k;go_wp2_with (go_at_call 186;refine (WV w.heap.size w.heap.size _ _ _ n (by omega) g).mono ?_);rintro e z ⟨rfl,l,f⟩;have m:=zH.byte (c:=126) rfl l;clear l n;go_wp2;go_roundw
      case rel=>exact⟨j+2,b++[126],by omega,by go_num,m,q.trans f,by simp[Lib.byteCells]at p ⊢;omega,(uh r).step (uh v)⟩
      case measure=>simp[intOf];omega
     ·by_cases h:(s[j+1].toNat:Int)=49
      ·have A:((s[j+1].toNat:Int) ==48)=false:=by simpa using d
       have D:((s[j+1].toNat:Int) ==49)=true:=by simpa using h
       have v:Hid (zJ (s.data.toList.drop j)=(zJ (s.data.toList.drop (j+2))).map ([47]++·)):=by show _=_;rw[o,k,U1 _ a h]
       clear a d h o k;go_wp2_with (go_at_call 186;refine (WV w.heap.size w.heap.size _ _ _ n (by omega) g).mono ?_);rintro e z ⟨rfl,l,f⟩;have m:=zH.byte (c:=47) rfl l;clear l n;go_wp2;go_roundw
       case rel=>exact⟨j+2,b++[47],by omega,by go_num,m,q.trans f,by simp[Lib.byteCells]at p ⊢;omega,(uh r).step (uh v)⟩
       case measure=>simp[intOf];omega
      ·have A:((s[j+1].toNat:Int) ==48)=false:=by simpa using d
       have D:((s[j+1].toNat:Int) ==49)=false:=by simpa using h
       have u:=zh ((uh r).bad (by rw[o,k,U2 _ a d h]));clear a d h o k n;go_wp2;go_ret2;exact⟨by rw[uh u];rfl,q⟩
    ·have B:((j:Int)+1 ==(s.size:Int))=true:=by simp;omega
     have u:=zh ((uh r).bad (by rw[o,GK s (j+1) l,UZ a]));clear a o n;go_wp2;go_ret2;exact⟨by rw[uh u];rfl,q⟩
   ·have C:((s[j].toNat:Int) !=126)=true:=by simpa using a
    have v:Hid (zJ (s.data.toList.drop j)=(zJ (s.data.toList.drop (j+1))).map ([s[j]]++·)):=by show _=_;rw[o,UY _ a]
    clear a o;go_wp2_with (go_at_call 186;refine (WV w.heap.size w.heap.size _ _ _ n (by omega) g).mono ?_);rintro e z ⟨rfl,l,f⟩;have m:=zH.byte (c:=s[j]) rfl l;clear l n;go_wp2;go_roundw
    case rel=>exact⟨j+1,b++[s[j]],by omega,by go_num,m,q.trans f,by simp[Lib.byteCells]at p ⊢;omega,(uh r).step (uh v)⟩
    case measure=>simp[intOf];omega
  ·have u:=zh ((uh r).fin (by rw[Zb];omega));go_wp2_with (go_at_call 81;refine (WW w.heap.size w.heap.size b _ n g).mono ?_);rintro e z ⟨rfl,f⟩;clear n;go_wp2;go_ret2;exact⟨by rw[uh u];rfl,q.trans f⟩
def Mx(k:Nat):UInt8:=UInt8.ofNat (48+k % 10)
def NK:Nat->Nat->Bs->Bs
 | 0,_,acc=>acc
 | f+1,k,acc=>if k=0 then acc else NK f (k / 10) (⟨#[Mx k]⟩++acc)
def My(k:Nat):Bs:=⟨#[109]⟩++NK k k ByteArray.empty
def zaH(k n:Nat):List Value:=(List.range n).map fun j=>.string (My (k+j))
theorem Ke(xa:Option Addr)(xb xo xc:Nat)(ss:List Bs)(w:Wo)(h:SS w xa xb xo ss)(hm:ss.length+Z9 ss<=1048576):
  Calls Tryz.prog 42 #[.slice xa ss.length xc] w fun e w'=>e= .returned (.string ⟨(Zf ss).toArray⟩)/\Bw w w':=by
 obtain⟨R,Q,D,E,F⟩:=info_parts VR;have x:=h.ad;have HC:=zh h.cell;clear h;have hlen:ss.length<=1048576:=by omega
 have HM:=zh hm;clear hm;go_in;go_wp2;go_loopw [3,4] (fun v i wr=>∃ k:Nat,k<=ss.length/\i= .int .i64 k/\wr.ownsRow w.heap.size 5 1 v (Lib.byteCells (Zf (ss.take k))).length (Lib.byteCells (Zf (ss.take k)))/\Bw w wr) (fun _ i _=>ss.length - (intOf i).toNat)
 case atStart=>exact⟨0,yr _,rfl,World.ownsRow_lit w #[] 0 (yd _) (by unfold maxLen;omega) rfl,(yG _ _).alloc (yd _) _⟩
 case round=>
  obtain⟨k,G,rfl,a,y⟩:=hrel;by_cases C:k<ss.length
  ·have L:=uh HC k C;have aa:xb<w.heap.size:=yI _ _ L;obtain rfl:=x (by omega);have N:=XG C;have hsz:(ss.getD k ByteArray.empty).size<=1048576:=by have:=WU C;have:=uh HM;omega
   have hpl:(Zf (ss.take k)).length+2*(ss.getD k ByteArray.empty).size+1<=2097152:=by
    have h1:=Nq (ss.take k);have h2:=WU C;have h3:=uh HM;have h4:(ss.take k).length=k:=by rw[yl];omega
    omega
   clear x;generalize hs:ss.getD k ByteArray.empty=s at *;have K:=zh N;have HS:=zh hs;clear N hs;have HP:Hid (Zf (ss.take (k+1))=Zf (ss.take k)++47 :: Zz s.data.toList):=by
    have e:=uh K;show _=_;rw[e,Np]
   generalize Zf (ss.take k)=p at *;clear K;have B:=zh y;have o:=y.size;clear y;have M:(Lib.byteCells p).length=p.length:=yJ p;have H:=zh M;clear M;go_wp2_with (at_builtin;refine wpList_append_own _ rfl (.tmp 13) (.tmp 14) 22 rfl w.heap.size 5 R (.int .u8 0) 1 1 Tryz.underlying22 Q D E F rfl (by decide) _ _ _ rfl (a.alloc _) ⟨wr.heap.size,0,none⟩ 1 1 [.int .u8 47] rfl rfl (QH _ _ _) (J8 _ _) (by rw[uh H];unfold maxLen;omega) (by rw[uh H];omega) (by simp;omega) ?_);intro v1 w1 A r _;have I:Bw w w1:=((uh B).alloc o _).grown r (by simp;omega) (fun k G=>(a.lt k G).1);have n:=qh (m:=[47]) A (by simp[Lib.byteCells]) rfl;clear A r a B H;go_wp2;go_loopw [3,5] (fun v i wr=>∃ j:Nat,j<=s.size/\i= .int .i64 j/\wr.ownsRow w.heap.size 5 1 v (Lib.byteCells (p++47 :: Zz (s.data.toList.take j))).length (Lib.byteCells (p++47 :: Zz (s.data.toList.take j)))/\Bw w wr) (fun _ i _=>s.size - (intOf i).toNat)
   case atStart=>exact⟨0,yr _,rfl,by simpa [Zz]using n,I⟩
   case round=>
    obtain⟨j,hj,rfl,a,y⟩:=hrel;have hc:wr.cell? ⟨xb,xo+k,none⟩=some (.string s):=(y.cell (p:=⟨xb,xo+k,none⟩) aa).trans L;have o:=y.size;by_cases X:j<s.size
    ·have Y:(Lib.byteCells (p++47 :: Zz (s.data.toList.take j))).length<=p.length+1+2*j:=by
      have:=VQ (s.data.toList.take j);have h5:(s.data.toList.take j).length=j:=by rw[yl,Zb];omega
      rw[yJ,yg,ym];omega
     have T:Hid (p++47 :: Zz (s.data.toList.take (j+1))=(p++47 :: Zz (s.data.toList.take j))++Qz s[j]):=by
      show _=_
      rw[WT s j X,Nn];simp
     generalize p++47 :: Zz (s.data.toList.take j)=q at *;have B:=zh y;clear y n I;by_cases l:(s[j].toNat:Int)=126
     ·have t1:((s[j].toNat:Int) ==126)=true:=by simpa using l
      have J:=zh (Nr l);clear l;go_wp2_with (at_builtin;refine wpList_append_own _ rfl (.tmp 32) (.tmp 33) 22 rfl w.heap.size 5 R (.int .u8 0) 1 1 Tryz.underlying22 Q D E F rfl (by decide) _ _ _ rfl (a.alloc _) ⟨wr.heap.size,0,none⟩ 2 2 [.int .u8 126,.int .u8 48] rfl rfl (Yq _ _ _ _) (YT _ _ _) (by unfold maxLen;omega) (by omega) (by simp;omega) ?_);intro v2 O d b _;have z:Bw w O:=((uh B).alloc o _).grown b (by simp;omega) (fun k G=>(a.lt k G).1);have f:=qh (m:=[126,48]) d (by simp[Lib.byteCells]) rfl;clear d b a B Y;go_wp2;go_roundw
      case rel=>exact⟨j+1,by omega,by go_num,by rw[uh T,uh J];exact f,z⟩
      case measure=>simp[intOf];omega
     ·have t1:((s[j].toNat:Int) ==126)=false:=by simpa using l
      by_cases u:(s[j].toNat:Int)=47
      ·have t2:((s[j].toNat:Int) ==47)=true:=by simpa using u
       have J:=zh (Ns u);clear l u;go_wp2_with (at_builtin;refine wpList_append_own _ rfl (.tmp 42) (.tmp 43) 22 rfl w.heap.size 5 R (.int .u8 0) 1 1 Tryz.underlying22 Q D E F rfl (by decide) _ _ _ rfl (a.alloc _) ⟨wr.heap.size,0,none⟩ 2 2 [.int .u8 126,.int .u8 49] rfl rfl (Yq _ _ _ _) (YT _ _ _) (by unfold maxLen;omega) (by omega) (by simp;omega) ?_);intro v2 O d b _;have z:Bw w O:=((uh B).alloc o _).grown b (by simp;omega) (fun k G=>(a.lt k G).1);have f:=qh (m:=[126,49]) d (by simp[Lib.byteCells]) rfl;clear d b a B Y;go_wp2;go_roundw
       case rel=>exact⟨j+1,by omega,by go_num,by rw[uh T,uh J];exact f,z⟩
       case measure=>simp[intOf];omega
      ·have t2:((s[j].toNat:Int) ==47)=false:=by simpa using u
       have J:=zh (XI l u);clear l u;go_wp2_with (at_builtin;refine wpList_append_own _ rfl (.tmp 45) (.tmp 52) 22 rfl w.heap.size 5 R (.int .u8 0) 1 1 Tryz.underlying22 Q D E F rfl (by decide) _ _ _ rfl (a.alloc _) ⟨wr.heap.size,0,none⟩ 1 1 [.int .u8 s[j].toNat] rfl rfl (QH _ _ _) (J8 _ _) (by unfold maxLen;omega) (by omega) (by simp;omega) ?_);intro v2 O d b _;have z:Bw w O:=((uh B).alloc o _).grown b (by simp;omega) (fun k G=>(a.lt k G).1);have f:=qh (m:=[s[j]]) d (by simp[Lib.byteCells]) rfl;clear d b a B Y;go_wp2;go_roundw
       case rel=>exact⟨j+1,by omega,by go_num,by rw[uh T,uh J];exact f,z⟩
       case measure=>simp[intOf];omega
    ·have W:j=s.size:=by omega
     subst W;rw[XH]at a;clear n I;go_wp2;go_roundw
     case rel=>exact⟨k+1,by omega,by go_num,by rw[uh HP];exact a,y⟩
     case measure=>simp[intOf];omega
  ·have e:ss.take k=ss:=yp (by omega);rw[e]at a;clear x;have hl:=yJ (Zf ss);rcases a.2 with ⟨Z,h0⟩ |⟨g,U,cur,Z,_⟩
   ·have e0:Zf ss=[]:=yM (by omega);subst Z;have V:=run_convert_bytes_nil (P:=Tryz.prog) wr 22 5 Tryz.underlying22 Tryz.underlying5 0 0 9 Tryz.underlying9;have S:=zh e0;clear e0 h0 a hl;go_wp2;go_ret;exact⟨by rw[uh S];rfl,y⟩
   ·subst Z;rw[hl]at a ⊢;have V:=run_convert_bytes_back (P:=Tryz.prog) wr 22 9 5 ⟨g,0,none⟩ U (Zf ss) Tryz.underlying22 Tryz.underlying5 Tryz.underlying9 (fun j hj=>by
     rw[show ((⟨g,0,none⟩:Addr).add j)=⟨g,j,none⟩from by simp[Addr.add];omega,a.cellAt j (by omega)];exact UX hj)
    go_wp2;go_ret;exact⟨rfl,y⟩
def QZ(ts us:List (List UInt8)):Bool:=decide (ts.length<=us.length/\∀ j,j<ts.length->ts.getD j []=us.getD j [])
theorem NM{ts:List (List UInt8)}{j:Nat}(h:j<ts.length):(ts.map Zc).getD j ByteArray.empty=Zc (ts.getD j []):=by simp[h]
theorem Mz{B1 B2:Nat}(v u:Value)(ts us:List (List UInt8))(w:Wo)(h:OT w B1 v ts)(k:OT w B2 u us)(hl:ts.length<=1048577)(hl2:us.length<=1048577):
  Calls Tryz.prog 85 #[v,u] w fun e w'=>e= .returned (.bool (QZ ts us))/\∃ n,w'=w.drewN n:=by
 obtain⟨a,g,M,rfl,F,_⟩:=h.shape;obtain⟨Q,R,I,rfl,s,_⟩:=k.shape;have d:=F.ad;have f:=s.ad;have G:=zh F.cell;have H:=zh s.cell;rw[yk]at d f;simp only[yk]at G H;clear h k F s;by_cases A:ts.length<=us.length
 ·have B:¬ (us.length:Int)<(ts.length:Int):=by omega
  go_in;go_wp2;go_loopw [5] (fun i wr=>∃ m:Nat,m<=ts.length/\i= .int .i64 m/\(∀ j,j<m->ts.getD j []=us.getD j [])/\∃ n,wr=w.drewN n) (fun i _=>ts.length - (intOf i).toNat)
  case atStart=>exact⟨0,yr _,rfl,fun j hj=>by omega,0,rfl⟩
  case round=>
   obtain⟨m,S,rfl,b,n,rfl⟩:=hrel;have E:=zh b;clear b;by_cases o:m<ts.length
   ·have l:m<us.length:=by omega
    have y:=uh G m o;have z:=uh H m l;obtain rfl:=d (by omega);obtain rfl:=f (by omega);rw[NM o]at y;rw[NM l]at z;have x:Hid (ts.getD m []≠us.getD m []->QZ ts us=false):=fun h=>by
     unfold QZ;rw[decide_eq_false_iff_not];rintro⟨_,O⟩;exact h (O m o)
    have L:Hid (ts.getD m []=us.getD m []->∀ j,j<m+1->ts.getD j []=us.getD j []):=fun h j hj=>by
     by_cases e:j=m
     ·subst e;exact h
     ·exact uh E j (by omega)
    clear d f E;generalize ts.getD m []=p at *;generalize us.getD m []=q at *;have J:(m:Int)<(ts.length:Int):=by omega
    have K:(m:Int)<(us.length:Int):=by omega
    rw[Nat.zero_add]at y z;by_cases r:p=q
    ·subst r;have C:=zh (uh L rfl);go_wp2;go_quiet (fail);go_wp2;go_roundw
     case rel=>exact⟨m+1,by omega,by go_num,uh C,_,by first | rfl |(simp[World.drewN_drewN])⟩
     case measure=>simp[intOf];omega
    ·have D:=zh (uh x r);have P:((Zc p).toList ==(Zc q).toList)=false:=by
      rw[yb,Lib.toList_data,Lib.toList_data];intro e;exact r (by simpa [Zc]using e)
     go_wp2;go_quiet (fail);go_wp2;go_ret;exact⟨by rw[uh D];rfl,_,World.drewN_drewN ..⟩
   ·have x:Hid (QZ ts us=true):=by
     show _=_;unfold QZ;rw[decide_eq_true_iff];exact⟨A,fun j hj=>uh E j (by omega)⟩
    clear d f;go_wp2;go_ret;exact⟨by rw[uh x];rfl,_,rfl⟩
 ·have x:Hid (QZ ts us=false):=by
   show _=_;unfold QZ;rw[decide_eq_false_iff_not];rintro⟨N,_⟩;exact A N
  have B:(us.length:Int)<(ts.length:Int):=by omega
  go_in;go_wp2;go_ret;exact⟨by rw[uh x];rfl,0,rfl⟩
end Go.Proofs.YtpaecnbdoljafaaGreatDoor
namespace Go.Proofs.YtpaecnbdoljafaaGreatDoor
theorem XV(s:Bs)(ss:List Bs):Zf (s :: ss)=47 ::(Zz s.data.toList++Zf ss):=by simp[Zf]
end Go.Proofs.YtpaecnbdoljafaaGreatDoor
namespace Go.Proofs.YtpaecnbdoljafaaGreatDoor
open Go.RowKit
structure Fr(bl:List Nat)(w w':Wo):Prop where
 os:w'.os=w.os
 tape:w'.tape=w.tape
 output:w'.output=w.output
 size:w.heap.size<=w'.heap.size
 block:∀ k,k<w.heap.size->k ∉ bl->w'.heap[k]?=w.heap[k]?
theorem Fr.refl(bl:List Nat)(w:Wo):Fr bl w w:=⟨rfl,rfl,rfl,yd _,fun _ _ _=>rfl⟩
theorem Fr.trans'{bl bl':List Nat}{a b c:Wo}(h:Fr bl a b)(k:Fr bl' b c)(hs:∀ i∈bl',i∈bl∨a.heap.size<=i):Fr bl a c:=
 ⟨k.os.trans h.os,k.tape.trans h.tape,k.output.trans h.output,yO h.size k.size,fun i hi hn=>
  (k.block i (yD hi h.size) (fun e=>by rcases hs i e with d | d;exact hn d;omega)).trans (h.block i hi hn)⟩
theorem Fr.trans{bl:List Nat}{a b c:Wo}(h:Fr bl a b)(k:Fr bl b c):Fr bl a c:=h.trans' k fun _=>.inl
theorem Fr.mono{bl bl':List Nat}{a b:Wo}(h:Fr bl a b)(hs:∀ i∈bl,i∈bl'):Fr bl' a b:=
 ⟨h.os,h.tape,h.output,h.size,fun i hi hn=>h.block i hi fun e=>hn (hs i e)⟩
theorem Fr.of_below{bl:List Nat}{w w':Wo}(h:Bw w w'):Fr bl w w':=⟨h.os,h.tape,h.output,h.size,fun k hk _=>h.block k hk⟩
theorem Fr.below{bl:List Nat}{B:Nat}{w w':Wo}(h:Fr bl w w')(hB:∀ b∈bl,B<=b)(hs:B<=w.heap.size):Below B w w':=
 ⟨h.os,h.tape,h.output,h.size,fun k hk=>h.block k (by omega) fun e=>by have:=hB k e;omega⟩
theorem Fr.set{bl:List Nat}{a w:Wo}(h:Fr bl a w){g:Nat}(hg:g∈bl)(j:Nat)(u:Value):Fr bl a (w.setCell ⟨g,j,none⟩ u):=
 h.trans ⟨rfl,rfl,rfl,by simp[World.setCell],fun k _ hn=>Below.heap_setCell _ _ _ _ fun e=>hn (e ▸ hg)⟩
theorem Fr.next{bl:List Nat}{a w w':Wo}(h:Fr bl a w)(hb:Bw w w'):Fr bl a w':=h.trans (.of_below hb)
theorem Fr.drewN{bl:List Nat}{a w:Wo}(h:Fr bl a w)(n:Nat):Fr bl a (w.drewN n):=⟨h.os,h.tape,h.output,h.size,h.block⟩
theorem Fr.drew{bl:List Nat}{a w:Wo}(h:Fr bl a w):Fr bl a w.drew:=⟨h.os,h.tape,h.output,h.size,h.block⟩
def Kp(bl:List Nat)(w w':Wo):Prop:=∀ b∈bl,w'.heap[b]?=w.heap[b]?
theorem Kp.of_below{bl:List Nat}{w w':Wo}(h:Bw w w')(hl:∀ b∈bl,b<w.heap.size):Kp bl w w':=fun b hb=>h.block b (hl b hb)
theorem NO{w w':Wo}{B e size n:Nat}{v:Value}{xs:List Value}(h:w.ownsRow B e size v n xs)(hb:Kp v.ownBlock.toList w w'):w'.ownsRow B e size v n xs:=by
 refine⟨h.1,?_⟩;rcases h.2 with f |⟨g,a,b,d,i,j,r⟩
 ·exact .inl f
 ·refine .inr ⟨g,a,b,d,i,(hb g ?_).trans j,r⟩;rw[d];simp[Value.ownBlock]
structure Jg (α:Type) where
 T:TypeId
 wd:Nat
 E:Wo->List Value->α->List Nat->Prop
 len:∀ {w vs x bl},E w vs x bl->vs.length=wd
 lt:∀ {w vs x bl},E w vs x bl->∀ b∈bl,b<w.heap.size
 keep:∀ {w w' vs x bl},E w vs x bl->Kp bl w w'->E w' vs x bl
def Zn{α:Type}(e:Jg α)(w:Wo)(v:Value)(xs:List α)(bl:List Nat):Prop:=
 ∃ ps:List (List Value×List Nat),ps.length=xs.length/\(∀ (j:Nat) (p:List Value×List Nat) (x:α),ps[j]?=some p->xs[j]?=some x->e.E w p.1 x p.2) /\
  w.ownsRow 0 e.T e.wd v xs.length (ps.flatMap (·.1))/\bl=v.ownBlock.toList++ps.flatMap (·.2)
theorem MA{ps:List (List Value×List Nat)}{wd:Nat}(h:∀ p∈ps,p.1.length=wd){j:Nat}{p:List Value×List Nat}(hj:ps[j]?=some p)(m:Nat)(hm:m<wd):(ps.flatMap (·.1))[j*wd+m]?=p.1[m]?:=by
 induction ps generalizing j with
 | nil=>simp at hj
 | cons q r ih=>
  have a:=h q yo;rw[List.flatMap_cons]
  cases j with
  | zero=>
   simp at hj;subst hj;rw[Nat.zero_mul,Nat.zero_add,List.getElem?_append_left (by omega)]
  | succ j=>
   have:=ih (fun p hp=>h p (yu _ hp)) (by simpa using hj);rw[List.getElem?_append_right (by rw[a,Nat.add_mul];omega),a,← this];congr 1;rw[Nat.add_mul];omega
theorem MB{ps:List (List Value×List Nat)}{wd:Nat}(h:∀ p∈ps,p.1.length=wd):(ps.flatMap (·.1)).length=ps.length*wd:=by
 induction ps with
 | nil=>simp
 | cons q r ih=>
  rw[List.flatMap_cons,yg,ih (fun p hp=>h p (yu _ hp)),h q yo,ym,Nat.add_mul];omega
theorem MC{ps:List (List Value×List Nat)}{wd:Nat}(h:∀ p∈ps,p.1.length=wd){j:Nat}{p:List Value×List Nat}(hj:ps[j]?=some p)(m:Nat)(hm:m<wd)(u:Value)(bl:List Nat):
  (ps.set j (p.1.set m u,bl)).flatMap (·.1)=(ps.flatMap (·.1)).set (j*wd+m) u:=by
 induction ps generalizing j with
 | nil=>simp at hj
 | cons q r ih=>
  have a:=h q yo
  cases j with
  | zero=>
   simp at hj;subst hj;rw[List.set_cons_zero,List.flatMap_cons,List.flatMap_cons,Nat.zero_mul,Nat.zero_add,List.set_append_left _ _ (by omega)]
  | succ j=>
   have:=ih (fun p hp=>h p (yu _ hp)) (by simpa using hj);rw[List.set_cons_succ,List.flatMap_cons,List.flatMap_cons,this,List.set_append_right _ _ (by rw[a,Nat.add_mul];omega),a];congr 2;rw[Nat.add_mul];omega
theorem MD{ps:List (List Value×List Nat)}{j:Nat}{p:List Value×List Nat}(hj:ps[j]?=some p)(vs:List Value):
  (ps.set j (vs,p.2)).flatMap (·.2)=ps.flatMap (·.2):=by
 induction ps generalizing j with
 | nil=>simp at hj
 | cons q r ih=>
  cases j with
  | zero=>simp at hj;subst hj;rw[List.set_cons_zero,List.flatMap_cons,List.flatMap_cons]
  | succ j=>rw[List.set_cons_succ,List.flatMap_cons,List.flatMap_cons,ih (by simpa using hj)]
theorem ME{ps:List (List Value×List Nat)}(h:(ps.flatMap (·.2)).Nodup){j:Nat}{p:List Value×List Nat}(hj:ps[j]?=some p):p.2.Nodup:=by
 induction ps generalizing j with
 | nil=>simp at hj
 | cons q r ih=>
  rw[List.flatMap_cons,List.nodup_append]at h
  cases j with
  | zero=>simp at hj;subst hj;exact h.1
  | succ j=>exact ih h.2.1 (by simpa using hj)
section
variable {α:Type} {e:Jg α} {w w':Wo} {v:Value} {xs:List α} {bl:List Nat}
theorem XW{ps:List (List Value×List Nat)}(hl:ps.length=xs.length)(h:∀ (j:Nat) (p:List Value×List Nat) (x:α),ps[j]?=some p->xs[j]?=some x->e.E w p.1 x p.2):∀ p∈ps,p.1.length=e.wd:=by
 intro p b;obtain⟨j,a,rfl⟩:=List.mem_iff_getElem.1 b;exact e.len (h j ps[j] (xs[j]'(by omega)) (yw a) (yw (by omega)))
theorem Zn.nil(e:Jg α)(w:Wo):Zn e w (.slice none 0 0) [] []:=⟨[],rfl,fun _ _ _ h=>by simp at h,w.ownsRow_nil _ _ _,rfl⟩
theorem Zn.lt(h:Zn e w v xs bl):∀ b∈bl,b<w.heap.size:=by
 obtain⟨k,l,d,g,rfl⟩:=h;intro b a;rw[List.mem_append]at a;rcases a with a | a
 ·exact (g.lt b (by simpa using a)).2
 ·obtain⟨p,i,a⟩:=List.mem_flatMap.1 a;obtain⟨j,f,rfl⟩:=List.mem_iff_getElem.1 i;exact e.lt (d j k[j] (xs[j]'(by omega)) (yw f) (yw (by omega))) b a
theorem Zn.keep(h:Zn e w v xs bl)(hk:Kp bl w w'):Zn e w' v xs bl:=by
 obtain⟨g,d,a,f,rfl⟩:=h;refine⟨g,d,fun j p x hp hx=>e.keep (a j p x hp hx) fun b hb=>hk b ?_,NO f fun b hb=>hk b ?_,rfl⟩
 ·rw[List.mem_append];exact .inr (List.mem_flatMap.2 ⟨p,List.mem_of_getElem? hp,hb⟩)
 ·rw[List.mem_append];exact .inl hb
theorem Zn.below(h:Zn e w v xs bl)(hb:Bw w w'):Zn e w' v xs bl:=h.keep (.of_below hb h.lt)
theorem Zn.form(h:Zn e w v xs bl):∃ a cap,v= .slice a xs.length cap/\(∀ g,a=some g->g=⟨g.block,0,none⟩/\g.block∈bl)/\(0<xs.length->∃ g,a=some ⟨g,0,none⟩):=by
 obtain⟨l,k,j,i,rfl⟩:=h;rcases i.2 with ⟨b,f⟩ |⟨g,cap,d,b,_⟩
 ·exact⟨none,0,by rw[b,f],fun g h=>(by cases h),fun h=>by omega⟩
 ·refine⟨some ⟨g,0,none⟩,cap,b,fun g h=>?_,fun _=>⟨g,rfl⟩⟩
  cases h;exact⟨rfl,by rw[b];simp[Value.ownBlock]⟩
theorem Zn.at{g cap n:Nat}(h:Zn e w (.slice (some ⟨g,0,none⟩) n cap) xs bl){j:Nat}{x:α}(hx:xs[j]?=some x):
  ∃ vs ib,e.E w vs x ib/\(∀ m u,vs[m]?=some u->w.cell? ⟨g,j*e.wd+m,none⟩=some u/\w.frozen? ⟨g,j*e.wd+m,none⟩=false)/\(∀ b∈ib,b∈bl)/\g∈bl/\(bl.Nodup->g ∉ ib/\ib.Nodup):=by
 obtain⟨d,A,r,l,rfl⟩:=h;have z:j<xs.length:=(List.getElem?_eq_some_iff.1 hx).1;have o:d[j]?=some d[j]:=yw (by omega);have a:=XW A r;have B:n=xs.length:=by
  rcases l.2 with ⟨p,D⟩ |⟨C,q,v,p,_⟩
  ·cases p
  ·injection p
 subst B;refine⟨d[j].1,d[j].2,r j _ x o hx,?_,?_,?_,?_⟩
 ·intro m u s;have k:m<e.wd:=by
   have:=(List.getElem?_eq_some_iff.1 s).1
   rwa [a _ (yq (by omega))]at this
  have i:j*e.wd+m<xs.length*e.wd:=by
   have:(j+1)*e.wd<=xs.length*e.wd:=Nat.mul_le_mul_right _ z;rw[Nat.add_mul]at this;omega
  refine⟨?_,l.frozenAt _⟩;rw[l.cellAt _ i,MA a o m k];exact s
 ·intro b y;rw[List.mem_append];exact .inr (List.mem_flatMap.2 ⟨_,yq (by omega),y⟩)
 ·simp[Value.ownBlock]
 ·intro f;rw[List.nodup_append]at f;refine⟨fun hg=>f.2.2 g (by simp[Value.ownBlock]) g (List.mem_flatMap.2 ⟨_,yq (by omega),hg⟩) rfl,?_⟩;exact ME f.2.1 o
theorem Zn.put {g cap n:Nat} (h:Zn e w (.slice (some ⟨g,0,none⟩) n cap) xs bl) (hd:bl.Nodup) {j:Nat} {x:α} (hx:xs[j]?=some x) (m:Nat) (hm:m<e.wd) (u:Value) (x':α)
  (hE:∀ w' vs ib,e.E w' vs x ib->e.E w' (vs.set m u) x' ib):Zn e (w.setCell ⟨g,j*e.wd+m,none⟩ u) (.slice (some ⟨g,0,none⟩) n cap) (xs.set j x') bl:=by
 obtain⟨d,z,f,A,rfl⟩:=h;have G:j<xs.length:=(List.getElem?_eq_some_iff.1 hx).1;have k:d[j]?=some d[j]:=yw (by omega);have r:=XW z f;have D:n=xs.length:=by
  rcases A.2 with ⟨q,F⟩ |⟨E,s,B,q,_⟩
  ·cases q
  ·injection q
 subst D;rw[List.nodup_append]at hd;have C:∀ p∈d,g ∉ p.2:=fun p k hgp=>hd.2.2 g (by simp[Value.ownBlock]) g (List.mem_flatMap.2 ⟨p,k,hgp⟩) rfl;have v:∀ p∈d,Kp p.2 w (w.setCell ⟨g,j*e.wd+m,none⟩ u):=fun p k b hb=>Below.heap_setCell _ _ _ _ fun he=>C p k (by subst he;exact hb);refine⟨d.set j (d[j].1.set m u,d[j].2),by simp[z],?_,?_,?_⟩
 ·intro i p y a l;by_cases o:i=j
  ·subst o;rw[List.getElem?_set_self (by omega)]at a l
   cases a;cases l;exact hE _ _ _ (e.keep (f i _ x k hx) (v d[i] (yq _)))
  ·rw[List.getElem?_set_ne (by omega)]at a l;exact e.keep (f i p y a l) (v _ (List.mem_of_getElem? a))
 ·rw[List.length_set,MC r k m hm u];exact (A.stored (j*e.wd+m) u).1
 ·rw[MD k]
theorem Zn.snoc (h:Zn e w v xs bl) {v':Value} {x:α} {vs:List Value} {ib cb:List Nat} (hc:bl=v.ownBlock.toList++cb) (hk:Kp cb w w')
  (ho:∀ cs,w.ownsRow 0 e.T e.wd v xs.length cs->w'.ownsRow 0 e.T e.wd v' (xs.length+1) (cs++vs)) (hE:e.E w' vs x ib):
  Zn e w' v' (xs++[x]) (v'.ownBlock.toList++(cb++ib)):=by
 obtain⟨n,m,g,k,i⟩:=h;rw[i]at hc;have d:n.flatMap (·.2)=cb:=List.append_cancel_left hc;refine⟨n++[(vs,ib)],by simp[m],?_,?_,?_⟩
 ·intro j p y a f;by_cases o:j<xs.length
  ·rw[List.getElem?_append_left (by omega)]at a f;exact e.keep (g j p y a f) fun b i=>hk b (by rw[← d];exact List.mem_flatMap.2 ⟨p,List.mem_of_getElem? a,i⟩)
  ·have l:=(List.getElem?_eq_some_iff.1 f).1;rw[yg,List.length_singleton]at l;have:j=xs.length:=by omega
   subst this;rw[← m]at a;simp at a f;subst a;subst f;exact hE
 ·have:=ho _ k;rw[List.flatMap_append,yg];simpa using this
 ·rw[List.flatMap_append,d];simp
theorem Zn.split(h:Zn e w v xs bl):∃ cb,bl=v.ownBlock.toList++cb:=by
 obtain⟨a,_,_,_,rfl⟩:=h;exact⟨_,rfl⟩
theorem Zn.own(h:Zn e w v xs bl):∃ cs,w.ownsRow 0 e.T e.wd v xs.length cs:=by
 obtain⟨b,_,_,a,_⟩:=h;exact⟨_,a⟩
end
structure VX (α:Type) where
 wd:Nat
 R:Wo->List Value->α->Prop
 len:∀ {w vs x},R w vs x->vs.length=wd
 keep:∀ {w w' vs x},R w vs x->Bw w w'->R w' vs x
def YU{α:Type}(e:VX α)(w:Wo)(v:Value)(xs:List α):Prop:=
 xs.length<=maxLen/\∃ a cap,v= .slice a xs.length cap/\∀ (j:Nat) (x:α),xs[j]?=some x->∃ b o,a=some ⟨b,o,none⟩/\∃ vs,e.R w vs x/\∀ (m:Nat) (u:Value),vs[m]?=some u->w.cell? ⟨b,o+(j*e.wd+m),none⟩=some u
theorem YU.below{α:Type}{e:VX α}{w w':Wo}{v:Value}{xs:List α}(h:YU e w v xs)(hb:Bw w w'):YU e w' v xs:=by
 obtain⟨k,a,d,l,h⟩:=h;refine⟨k,a,d,l,fun j x hx=>?_⟩;obtain⟨b,o,i,n,g,f⟩:=h j x hx;exact⟨b,o,i,n,e.keep g hb,fun m u hu=>(hb.cell (p:=⟨b,o+(j*e.wd+m),none⟩) (yI _ _ (f m u hu))).trans (f m u hu)⟩
def Kf:VX Bs:={wd:=1,R:=fun _ vs s=>vs=[.string s]/\s.size<=maxLen,len:=fun h=>by rw[h.1];rfl,keep:=fun h _=>h}
def MF:Jg Bs:={T:=9,wd:=1,E:=fun _ vs s bl=>vs=[.string s]/\bl=[],len:=fun h=>by rw[h.1];rfl,lt:=fun h b hb=>by rw[h.2]at hb;simp at hb,keep:=fun h _=>h}
abbrev WX(w:Wo)(v:Value)(ss:List Bs)(bl:List Nat):Prop:=Zn MF w v ss bl
theorem NP{w:Wo}{v:Value}{ss:List Bs}{bl:List Nat}:WX w v ss bl↔w.ownsRow 0 9 1 v ss.length (ss.map .string)/\bl=v.ownBlock.toList:=by
 constructor
 ·rintro⟨m,k,h,b,rfl⟩;have g:m=ss.map fun s=>([.string s],[]):=by
   apply List.ext_getElem?;intro j;by_cases i:j<ss.length
   ·obtain⟨g,n⟩:=h j m[j] ss[j] (yw (by omega)) (yw i);rw[yw (by omega),List.getElem?_map,yw i];exact congrArg some (Prod.ext g n)
   ·rw[List.getElem?_eq_none (by omega),List.getElem?_eq_none (by rw[yk];omega)]
  subst g;have d:((ss.map fun s=>(([.string s],[]):List Value×List Nat)).flatMap (·.1))=ss.map .string:=by
   clear k h b;induction ss with
   | nil=>rfl
   | cons a r ih=>rw[yh,List.flatMap_cons,ih];rfl
  have f:((ss.map fun s=>(([.string s],[]):List Value×List Nat)).flatMap (·.2))=[]:=by
   clear k h b d;induction ss with
   | nil=>rfl
   | cons a r ih=>rw[yh,List.flatMap_cons,ih];rfl
  rw[d]at b;rw[f];exact⟨b,by simp⟩
 ·rintro⟨b,rfl⟩;refine⟨ss.map fun s=>([.string s],[]),by simp,?_,?_,?_⟩
  ·intro j p x l hx;rw[List.getElem?_map,hx]at l
   cases l;exact⟨rfl,rfl⟩
  ·have d:((ss.map fun s=>(([.string s],[]):List Value×List Nat)).flatMap (·.1))=ss.map .string:=by
    clear b;induction ss with
    | nil=>rfl
    | cons a r ih=>rw[yh,List.flatMap_cons,ih];rfl
   rw[d];exact b
  ·have f:((ss.map fun s=>(([.string s],[]):List Value×List Nat)).flatMap (·.2))=[]:=by
    clear b;induction ss with
    | nil=>rfl
    | cons a r ih=>rw[yh,List.flatMap_cons,ih];rfl
   rw[f];simp
theorem WX.ss{w:Wo}{v:Value}{ss:List Bs}{bl:List Nat}(h:WX w v ss bl):∃ a g cap,v= .slice a ss.length cap/\SS w a g 0 ss:=by
 obtain⟨d,_⟩:=NP.1 h;rcases d.2 with ⟨b,i⟩ |⟨g,cap,f,b,k,l,_⟩
 ·exact⟨none,0,0,by rw[b,i],⟨fun h=>by omega,fun j hj=>by omega⟩⟩
 ·refine⟨some ⟨g,0,none⟩,g,cap,b,⟨fun _=>rfl,fun j hj=>?_⟩⟩;subst b;rw[Nat.zero_add,d.cellAt j (by omega)];simp[hj]
theorem RStr.ss{w:Wo}{v:Value}{ss:List Bs}(h:YU Kf w v ss):∃ a b o cap,v= .slice a ss.length cap/\SS w a b o ss/\ss.length<=maxLen/\∀ j,(ss.getD j ByteArray.empty).size<=maxLen:=by
 obtain⟨m,a,cap,n,h⟩:=h;have g:∀ j,(ss.getD j ByteArray.empty).size<=maxLen:=by
  intro j;by_cases d:j<ss.length
  ·obtain⟨_,_,_,_,⟨_,i⟩,_⟩:=h j ss[j] (yw d);simpa [List.getD,d]using i
  ·simp[List.getD,d]
 by_cases k:0<ss.length
 ·obtain⟨b,o,l,_⟩:=h 0 ss[0] (yw k);refine⟨a,b,o,cap,n,⟨fun _=>l,fun j d=>?_⟩,m,g⟩;obtain⟨q,r,f,s,⟨i,_⟩,p⟩:=h j ss[j] (yw d);rw[l]at f;cases f;have:=p 0 (.string ss[j]) (by rw[i];rfl);simp[Kf]at this;simpa [List.getD,d]using this
 ·exact⟨a,0,0,cap,n,⟨fun h=>absurd h k,fun j d=>by omega⟩,m,g⟩
structure NQ where
 ver:Int
 ptrs:List Bs
 over:Bool
structure NR where
 client:Int
 ptr:Bs
 cap:Int
 since:Int
 closed:Bool
 queue:List NQ
structure NS where
 ver:Int
 ptrs:List Bs
structure Hb where
 watches:List NR
 waiting:List NS
def MG:VX NQ where
 wd:=3
 R:=fun w vs m=>∃ q,vs=[.int .i64 m.ver,q,.bool m.over]/\YU Kf w q m.ptrs
 len:=fun h=>by obtain⟨q,h,_⟩:=h;rw[h];rfl
 keep:=fun h hb=>by obtain⟨q,h1,h2⟩:=h;exact⟨q,h1,h2.below hb⟩
def MH:VX NS where
 wd:=2
 R:=fun w vs m=>∃ q,vs=[.int .i64 m.ver,q]/\YU Kf w q m.ptrs
 len:=fun h=>by obtain⟨q,h,_⟩:=h;rw[h];rfl
 keep:=fun h hb=>by obtain⟨q,h1,h2⟩:=h;exact⟨q,h1,h2.below hb⟩
def MI:VX NR where
 wd:=6
 R:=fun w vs m=>∃ q,vs=[.int .i64 m.client,.string m.ptr,.int .i64 m.cap,.int .i64 m.since,.bool m.closed,q]/\m.ptr.size<=maxLen/\YU MG w q m.queue
 len:=fun h=>by obtain⟨q,h,_⟩:=h;rw[h];rfl
 keep:=fun h hb=>by obtain⟨q,h1,h0,h2⟩:=h;exact⟨q,h1,h0,h2.below hb⟩
def XX(w:Wo)(v:Value)(h:Hb):Prop:=∃ p q,v= .agg #[p,q]/\YU MI w p h.watches/\YU MH w q h.waiting
theorem XX.below{w w':Wo}{v:Value}{h:Hb}(hr:XX w v h)(hb:Bw w w'):XX w' v h:=by
 obtain⟨p,q,d,a,b⟩:=hr;exact⟨p,q,d,a.below hb,b.below hb⟩
theorem Zx(w:Wo)(o:Obj):Bw w (w.alloc o):=(yG _ _).alloc (yd _) o
theorem MJ(l:List Nat)(k:Nat):(l.take k).sum<=l.sum:=by
 have h:=List.take_append_drop k l;have:(l.take k++l.drop k).sum=l.sum:=by rw[h]
 rw[List.sum_append]at this;omega
theorem MK{α:Type}(f:α->Nat)(l:List α)(k:Nat)(x:α)(h:l[k]?=some x):((l.take (k+1)).map f).sum=((l.take k).map f).sum+f x:=by
 rw[List.take_add_one,h];simp
theorem NT(s:Bs)(w:Wo)(hsz:s.size<=1048576):
  Calls Tryz.prog 86 #[.string s] w fun e w'=>e= .returned (.bool (zG s.data.toList).isSome)/\Bw w w':=by
 have a:=zh (Kd s w hsz);obtain⟨z,b⟩:∃ z,(zG s.data.toList).isSome=z:=⟨_,rfl⟩;rw[b]at a ⊢;clear b;go_in;go_wp2_with fail;refine (uh a).mono ?_;rintro e g ⟨v,rfl,f,d⟩;clear a f
 cases z
 all_goals (
  go_wp2;go_ret;exact⟨rfl,d⟩)
theorem XY(b:Nat)(w:Wo)(hb:b<256):
  Calls Tryz.prog 204 #[.int .u8 b] w fun e w'=>e= .returned (.bool (zT b))/\w=w':=by
 by_cases h:48<=b
 ·have a:Hid (zT b=decide ((b:Int)<=57)):=by
   show _=_
   unfold zT;rw[yi h,Bool.true_and];apply decide_eq_decide.2;omega
  have d:(48:Int)<=(b:Int):=by omega
  go_in;go_wp2;go_ret;exact⟨by rw[uh a];rfl,rfl⟩
 ·have a:Hid (zT b=false):=by
   show _=_
   unfold zT;rw[yj h,Bool.false_and]
  have d:¬ (48:Int)<=(b:Int):=by omega
  go_in;go_wp2;go_ret;exact⟨by rw[uh a];rfl,rfl⟩
def Wa(most:Nat)(t:List UInt8):Prop:=1<=t.length/\t.length<=most/\∀ c∈t,zT c.toNat=true
instance (most : Nat) (t : List UInt8) : Decidable (Wa most t) := by unfold Wa; infer_instance
def Ya(most:Nat)(t:List UInt8):Value:=if Wa most t then .tuple #[.int .i64 (Z0 t:Int),.bool true]else .tuple #[.int .i64 0,.bool false]
theorem MM(s:Bs)(most:Nat)(w:Wo)(hs:s.size<=1048576)(hm:most<=9):
  Calls Tryz.prog 195 #[.string s,.int .i64 (most:Int)] w fun e w'=>e= .returned (Ya most s.data.toList)/\w=w':=by
 have b:¬ Wa most s.data.toList->Ya most s.data.toList= .tuple #[.int .i64 0,.bool false]:=fun h=>by unfold Ya;rw[ye h]
 have n:=Zb s;by_cases B:s.size<1
 ·have z:=zh (b (fun h=>by have:=h.1;omega));have E:s=⟨#[]⟩:=by
   have:s.data.toList=[]:=yM (by omega);obtain⟨⟨l⟩⟩:=s;simp at this;subst this;rfl
  subst E;clear b B n hs;go_in;go_wp2;go_ret2;exact⟨by rw[uh z];rfl,rfl⟩
 ·have P:s.toList.isEmpty=false:=by
   rw[ByteArray.toList_eq,List.isEmpty_eq_false_iff];intro e;rw[e]at n;simp at n;omega
  by_cases F:most<s.size
  ·have z:=zh (b (fun h=>by have:=h.2.1;omega));have K:(most:Int)<(s.size:Int):=by omega
   clear b B F;go_in;go_wp2;go_ret2;exact⟨by rw[uh z];rfl,rfl⟩
  ·have K:¬ (most:Int)<(s.size:Int):=by omega
   have M:0<s.size:=by omega
   have N:(0:Int)<(s.size:Int):=by omega
   have x:Hid (∀ (k:Nat) (r:k<s.size) (w:Wo),Calls Tryz.prog 204 #[.int .u8 (s[k].toNat:Int)] w (Rk (.bool (zT s[k].toNat)) w)):=fun k r w=>XY s[k].toNat w (UInt8.toNat_lt _);have f:Hid (∀ k (r:k<s.size),zT s[k].toNat=false->Ya most s.data.toList= .tuple #[.int .i64 0,.bool false]):=fun k r hd=>b (fun h=>by
    have:=h.2.2 s[k] (by rw[← Nx s k r];exact yq _);rw[hd]at this;cases this)
   have d:Hid ((∀ k (r:k<s.size),zT s[k].toNat=true)->Ya most s.data.toList= .tuple #[.int .i64 (Z0 s.data.toList:Int),.bool true]):=fun g=>by
    have C:Wa most s.data.toList:=⟨by omega,by omega,fun c hc=>by
     obtain⟨j,m,rfl⟩:=List.getElem_of_mem hc;exact g j (by omega)⟩
    unfold Ya;rw[yf C]
   have H:s.size<=9:=by omega
   clear b B F;go_in;go_wp2;go_loopw [6,18] (fun vv iv wr=>∃ k:Nat,k<=s.size/\iv= .int .i64 (k:Int)/\vv= .int .i64 ((Z0 (s.data.toList.take k):Nat):Int)/\(∀ j (m:j<s.size),j<k->zT s[j].toNat=true)/\w=wr) (fun _ iv _=>s.size - (intOf iv).toNat)
   case atStart=>exact⟨0,yr _,rfl,rfl,fun j _ m=>by omega,rfl⟩
   case round=>
    obtain⟨k,r,rfl,rfl,g,rfl⟩:=hrel;have a:=zh g;clear g;by_cases p:k<s.size
    ·have G:(k:Int)<(s.size:Int):=by omega
     have i:=zh (uh x k p w);have q:s.data.toList.take (k+1)=s.data.toList.take k++[s[k]]:=WT s k p;have u:Hid (Z0 (s.data.toList.take (k+1))=Z0 (s.data.toList.take k)*10+(s[k].toNat - 48)):=by show _=_;rw[q,GU]
     have o:Z0 (s.data.toList.take k)<1000000000∨¬ ∀ c∈s.data.toList.take k,zT c.toNat=true:=by
      rcases Ny k (s.data.toList.take k) (by rw[yl];omega)with h | h
      ·left;have:10 ^ k<=10 ^ 9:=Nat.pow_le_pow_right (by omega) (by omega);omega
      ·exact .inr h
     have v:Z0 (s.data.toList.take k)<1000000000:=o.elim id fun h=>absurd (fun c hc=>by
      obtain⟨j,m,rfl⟩:=List.getElem_of_mem hc;rw[yl]at m;rw[List.getElem_take];exact uh a j (by omega) (by omega)) h
     cases hd:zT s[k].toNat with
     | false=>
      have A:=zh (uh f k p hd);rw[hd]at i;clear hd u q o v a f d x;go_wp2_with fail;refine (uh i).mono ?_;rintro e L ⟨rfl,rfl⟩;clear i;go_wp2;go_ret2;exact⟨by rw[uh A];rfl,rfl⟩
     | true=>
      have O:=qL.1 hd;have y:Hid (∀ j (m:j<s.size),j<k+1->zT s[j].toNat=true):=fun j m hjk=>by
       by_cases e:j=k
       ·subst e;exact hd
       ·exact uh a j m (by omega)
      rw[hd]at i;have I:(48:Int)<=(s[k].toNat:Int):=by omega
      have J:(s[k].toNat:Int)<=57:=by omega
      generalize Z0 (s.data.toList.take k)=D at *;clear hd q o a f d x;go_wp2_with fail;refine (uh i).mono ?_;rintro e L ⟨rfl,rfl⟩;clear i;go_wp2;go_roundw
      case rel=>exact⟨k+1,by omega,by go_num,by rw[uh u];go_num,uh y,trivial⟩
      case measure=>simp[intOf];omega
    ·have e:s.data.toList.take k=s.data.toList:=yp (by omega);rw[e];have A:=zh (uh d (fun j m=>uh a j m (by omega)));generalize Z0 s.data.toList=D at *;clear a f d x e;go_wp2;go_ret2;exact⟨by rw[uh A];rfl,rfl⟩
theorem MN(most:Nat)(t:List UInt8):∃ (z:Int) (b:Bool),Ya most t= .tuple #[.int .i64 z,.bool b]:=by
 unfold Ya;split
 ·exact⟨_,_,rfl⟩
 ·exact⟨_,_,rfl⟩
def VY(w:Wo):Prop:=Lib.Utf8Tabs 1 2 w
theorem VY.below{w w':Wo}(h:VY w)(hb:Bw w w'):VY w':=by
 refine⟨fun c hc=>?_,fun i hi=>?_⟩
 ·have:=h.1 c hc;exact (hb.cell (yI _ _ this)).trans this
 ·have a:=h.2 i hi;exact⟨(hb.cell (yI _ _ a.1)).trans a.1,(hb.cell (yI _ _ a.2)).trans a.2⟩
def qc(B:Nat)(w:Wo):Prop:=∃ w0:Wo,w0.heap.size<=B/\VY w0/\Bw w0 w
theorem qc.of{w:Wo}(h:VY w):qc w.heap.size w:=⟨w,yd _,h,yG _ _⟩
theorem qc.tabs{B:Nat}{w:Wo}(h:qc B w):VY w:=by
 obtain⟨a,_,t,b⟩:=h;exact t.below b
theorem qc.next{B B':Nat}{w w':Wo}(h:qc B w)(hb:Below B' w w')(hB:B<=B'):qc B w':=by
 obtain⟨d,a,t,b⟩:=h;exact⟨d,a,t,b.trans (hb.mono (by omega))⟩
theorem XZ{w:Wo}{B e:Nat}{v:Value}{n:Nat}{xs:List Value}(h:w.ownsRow B e 1 v n xs):∀ k,v.ownBlock=some k->∃ cs fz,w.heap[k]?=some (.cells cs e fz):=by
 intro k a;rcases h.2 with ⟨rfl,_⟩ |⟨g,b,d,rfl,_,f,_⟩
 ·simp[Value.ownBlock]at a
 ·simp only[Value.ownBlock,Option.some.injEq]at a;subst a;exact⟨_,_,f⟩
theorem X0(B b:Nat)(bs:List Value)(w:Wo)(h:Lib.IsBuilder 149 5 B b bs w):
  Calls Tryz.prog 219 #[.pointer (some ⟨b,0,none⟩)] w fun e w'=>e= .returned (.tuple #[])/\(Lib.BuilderAt 149 5 B b (.pointer (some ⟨b,0,none⟩)) bs w'/\Below B w w'/\Lib.OthersKept 5 (some b) w w'):=by
 rcases h with h | h
 ·refine (NG b w h.cell0 h.shape h.frozen0).mono ?_;rintro e w' ⟨rfl,rfl⟩;exact⟨rfl,h.used _,(yG B w).setCell (p:=⟨b,0,none⟩) h.1 _,(Lib.OthersKept.refl _ _ w).setCell ⟨b,0,none⟩ rfl _⟩
 ·refine (NE b w h.cell0).mono ?_;rintro e w' ⟨rfl,rfl⟩;exact⟨rfl,h,yG B _,Lib.OthersKept.refl _ _ _⟩
theorem Wc(B b:Nat)(bs:List Value)(c:Int)(w:Wo)(h:Lib.IsBuilder 149 5 B b bs w)(hlen:bs.length+1<=140737488355328)(hBw:B<=w.heap.size):
  Calls Tryz.prog 186 #[.pointer (some ⟨b,0,none⟩),.int .u8 c] w fun e w'=>e= .returned .nilIface/\(Lib.BuilderAt 149 5 B b (.pointer (some ⟨b,0,none⟩)) (bs++[.int .u8 c]) w'/\Below B w w'/\Lib.OthersKept 5 (some b) w w'):=by
 obtain⟨K,I,A,C,D⟩:=info_parts infoByte;go_in;go_wp2_with (go_at_call 219;refine (X0 B b bs _ h).mono ?_);rintro e o ⟨rfl,H,l,x⟩;obtain⟨E,v,n,d,z⟩:=H;have c0:o.cell? ⟨b,0,none⟩=some (.pointer (some ⟨b,0,none⟩)):=by rw[yE n];rfl
 have c1:o.cell? ⟨b,1,none⟩=some v:=by rw[yE n];rfl
 go_wp2_with (at_builtin;refine wpList_append_own _ rfl _ _ 22 rfl B 5 K (.int .u8 0) 1 1 Tryz.underlying22 I A C D rfl (by decide) _ _ _ rfl (d.alloc _) ⟨o.heap.size,0,none⟩ 1 1 [.int .u8 c] rfl rfl ?c1 ?c2 ?c3 ?c4 ?c5 ?_)
 case c1=>
  intro j u q
  match j,q with
  | 0,q=>simp at q;subst q;simp[Addr.add]
 case c2=>intro u F;simp at F;subst F;rfl
 case c3=>unfold maxLen;omega
 case c4=>omega
 case c5=>have:=l.size;simp;omega
 intro L r f a _;have y:b<o.heap.size:=by
  rcases Nat.lt_or_ge b o.heap.size with s | s
  ·exact s
  ·simp[Array.getElem?_eq_none s]at n
 have m:r.heap[b]?=some (.cells #[.pointer (some ⟨b,0,none⟩),v] 149 (0,0)):=by
  rw[a.block b (by simp;omega) (fun e=>z e.symm),Lib.alloc_old o _ b y];exact n
 have M:r.cell? ⟨b,0,none⟩=some (.pointer (some ⟨b,0,none⟩)):=by rw[yE m];rfl
 have N:r.cell? ⟨b,1,none⟩=some v:=by rw[yE m];rfl
 have O:r.frozen? ⟨b,1,none⟩=false:=yH m 1;obtain⟨g,i,rfl⟩:∃ g i,L= .slice (some ⟨g,0,none⟩) (bs.length+1) i:=by
  rcases f.2 with ⟨_,P⟩ |⟨g,i,G,J,_⟩
  ·omega
  ·exact⟨g,i,J⟩
 go_wp2;go_ret;refine⟨rfl,?_,?_,((x.alloc _).grown a (XZ (d.alloc _))).setCell ⟨b,1,none⟩ rfl _⟩
 ·exact Lib.BuilderAt.put (T:=149) (e:=5) E m (bs':=bs++[.int .u8 c]) (by simpa using f) (by decide)
 ·exact ((l.alloc (by have:=l.size;omega) _).grown a (by have:=l.size;simp;omega) (fun k hk=>(d.lt k hk).1)).setCell (p:=⟨b,1,none⟩) E _
theorem Yb(B b:Nat)(bs:List Value)(s:Bs)(w:Wo)(h:Lib.IsBuilder 149 5 B b bs w)(hlen:bs.length+s.size<=140737488355328)(hBw:B<=w.heap.size):
  Calls Tryz.prog 194 #[.pointer (some ⟨b,0,none⟩),.string s] w fun e w'=>e= .returned (.tuple #[.int .i64 s.size,.nilIface])/\(Lib.BuilderAt 149 5 B b (.pointer (some ⟨b,0,none⟩)) (bs++Lib.strCells s) w'/\Below B w w'/\Lib.OthersKept 5 (some b) w w'):=by
 obtain⟨J,I,z,A,C⟩:=info_parts infoByte;go_in;go_wp2_with (go_at_call 219;refine (X0 B b bs _ h).mono ?_);rintro e n ⟨rfl,H,m,r⟩;obtain⟨E,v,j,d,x⟩:=H;have c0:n.cell? ⟨b,0,none⟩=some (.pointer (some ⟨b,0,none⟩)):=by rw[yE j];rfl
 have c1:n.cell? ⟨b,1,none⟩=some v:=by rw[yE j];rfl
 go_wp2_with (at_builtin;refine Lib.wpList_append_own_string _ rfl _ _ 22 9 rfl B 5 J Tryz.underlying22 Tryz.underlying9 I z A C _ _ _ rfl d s rfl ?c3 ?c4 ?c5 ?_)
 case c3=>unfold maxLen;omega
 case c4=>omega
 case c5=>have:=m.size;omega
 intro K o f a _;have u:b<n.heap.size:=by
  rcases Nat.lt_or_ge b n.heap.size with q | q
  ·exact q
  ·simp[Array.getElem?_eq_none q]at j
 have i:o.heap[b]?=some (.cells #[.pointer (some ⟨b,0,none⟩),v] 149 (0,0)):=by
  rw[a.block b u (fun e=>x e.symm)];exact j
 have L:o.cell? ⟨b,0,none⟩=some (.pointer (some ⟨b,0,none⟩)):=by rw[yE i];rfl
 have M:o.cell? ⟨b,1,none⟩=some v:=by rw[yE i];rfl
 have N:o.frozen? ⟨b,1,none⟩=false:=yH i 1;obtain⟨D,F,l,rfl⟩:∃ D F l,K= .slice D F l:=by
  rcases f.2 with ⟨y,_⟩ |⟨g,l,G,y,_⟩
  ·exact⟨_,_,_,y⟩
  ·exact⟨_,_,_,y⟩
 go_wp2;go_ret2;refine⟨rfl,?_,?_,(r.grown a (XZ d)).setCell ⟨b,1,none⟩ rfl _⟩
 ·exact Lib.BuilderAt.put (T:=149) (e:=5) E i (bs':=bs++Lib.strCells s) (by simpa [Lib.strCells_length]using f) (by decide)
 ·exact (m.grown a (by have:=m.size;omega) (fun k hk=>(d.lt k hk).1)).setCell (p:=⟨b,1,none⟩) E _
theorem MO {P:Program} (w:Wo) {base:Nat} {t ty e:TypeId} {i:TypeInfo} {z:Value} (ht:P.underlying t=some (.slice e)) (hi:P.info? e=some i) (hz:i.zero=some z)
  {v:Value} {n:Nat} {xs:List Value} (hown:w.ownsRow base e i.size v n xs) {a:Addr} {m c:Nat} {news:List Value} (hl:news.length=m*i.size) (hnews:∀ j u,news[j]?=some u->w.cell? (a.add j)=some u) (h1:∀ u∈news,u.oneCell'=true)
  (h0:0<m) (h63:n+m<=maxLen) (hbytes:(n+m)*i.bytes<=140737488355328) {v':Value} {w':Wo} (hr:(Builtin.append_ #[t,t] ty #[v,.slice (some a) m c]).run P w= .ok v' w'):
  v'.ownBlock=v.ownBlock∨v'.ownBlock=some w.heap.size:=by
 unfold maxLen at h63;rcases hown.2 with ⟨k,o⟩ |⟨g,d,f,k,_,l,_,_,h,_⟩
 ·subst k;subst o;have hx:=run_append_nil (P:=P) w t ty e i z ht hi hz a m c news hl hnews h0 (by omega) (by simp only[Nat.zero_add]at hbytes;omega);rw[hx]at hr;injection hr with hr1 _;subst hr1;exact .inr rfl
 ·subst k;by_cases b:n+m<=d
  ·have hx:=run_append_room (P:=P) w t ty e i ht hi g n d f l a m c news hl hnews h1 b (by rw[hl,h,← Nat.add_mul];exact Nat.mul_le_mul_right _ b);rw[hx]at hr;injection hr with hr1 _;subst hr1;exact .inl rfl
  ·have hx:=run_append_grow (P:=P) w t ty e i z ht hi hz ⟨g,0,none⟩ n d xs hown.1 (hown.cells (g:=g) rfl) a m c news hl hnews (by omega) (by omega) (growslice_fits (by omega) hbytes);rw[hx]at hr;injection hr with hr1 _;subst hr1;exact .inr rfl
theorem NU {e t:TypeId} (ht:Tryz.prog.underlying t=some (.slice e)) {z:Value} {bytes:Nat}
  (hinfo:(Tryz.prog.info? e).map (fun i=>(i.zero,i.size,i.bytes))=some (some z,1,bytes)) (hzs:z.cells.size=1) (hby:bytes<=100)
  {w:Wo} {ops:Array Oper} {rest:List Oper} {o:Oper} {a:Act} {Q:Exit->Act->Wo->Prop} (hg:o.guard=none) (s x:Operand)
  (ho:o.op= .call {callee:=.builtin .append,args:=#[s,x],argTypes:=#[t,t]}) {B:Nat} {v:Value} {xs:List Value} {n:Nat} (hs:a.eval s=v)
  (hown:w.ownsRow B e 1 v n xs) {y:Value} (hy:y.oneCell'=true) {g:Nat} (hx:a.eval x= .slice (some ⟨g,0,none⟩) 1 1)
  (hcell:w.cell? ⟨g,0,none⟩=some y) (hB:B<=w.heap.size) (hl:n<=40000000)
  (hK:∀ v' w',w'.ownsRow B e 1 v' (n+1) (xs++[y])->w.grownBy w' v.ownBlock->(v'.ownBlock=v.ownBlock∨v'.ownBlock=some w.heap.size)->wpList Tryz.prog ops Q rest (a.put o.dst v') w'):
  wpList Tryz.prog ops Q (o :: rest) a w:=by
 obtain⟨C,m,d,b,f⟩:=info_parts hinfo;have k:(n+1)*bytes<=(n+1)*100:=Nat.mul_le_mul_left _ hby
 have l:∀ (j:Nat) (u:Value),[y][j]?=some u->w.cell? ((⟨g,0,none⟩:Addr).add j)=some u:=fun j u hu=>by
  cases j with
  | zero=>simp at hu;subst hu;simpa [Addr.add]using hcell
  | succ j=>simp at hu
 have h:∀ u∈[y],u.oneCell'=true:=fun u hu=>by simp at hu;subst hu;exact hy
 obtain⟨v',w',p,q,r,_⟩:=run_append_own (P:=Tryz.prog) w B t o.type e C z 1 bytes ht m d b f hzs (by decide) v n xs hown ⟨g,0,none⟩ 1 1 [y] rfl l h (by unfold maxLen;omega) (by omega) hB;have A:=MO (P:=Tryz.prog) w (z:=z) ht m d (by rw[b];exact hown) (by rw[b];rfl) l h (by omega) (by unfold maxLen;omega) (by rw[f];omega) p;exact Lib.wpList_append_run w hg s x t t ho v _ hs hx v' w' p (hK v' w' q r A)
theorem MP(B b:Nat)(l:List UInt8)(s:Bs)(w:Wo)(h:zH B b l w)(hB:B<=w.heap.size)(hs:s.size<=1048576)(hl:l.length<=2097152):
  Calls Tryz.prog 155 #[.pointer (some ⟨b,0,none⟩),.string s] w fun e w'=>e= .returned (.tuple #[])/\zH B b (l++47 :: Zz s.data.toList) w'/\Below B w w':=by
 have E:Hid ((Lib.byteCells l).length=l.length):=yJ l;go_in;go_wp2_with (go_at_call 186;refine (WV B b _ 47 _ h (by rw[uh E];omega) hB).mono ?_);rintro e J ⟨rfl,C,r⟩;have p:=zH.byte (c:=47) rfl C;clear C h;go_wp2;go_loopw [9] (fun i wr=>∃ j:Nat,j<=s.size/\i= .int .i64 j/\zH B b (l++47 :: Zz (s.data.toList.take j)) wr/\Below B w wr) (fun i _=>s.size - (intOf i).toNat)
 case atStart=>exact⟨0,yr _,rfl,by simpa [Zz]using p,r⟩
 case round=>
  obtain⟨j,I,rfl,o,v⟩:=hrel;have k:B<=wr.heap.size:=by have:=v.size;omega
  by_cases z:j<s.size
  ·have A:(Lib.byteCells (l++47 :: Zz (s.data.toList.take j))).length<=l.length+1+2*j:=by
    have:=VQ (s.data.toList.take j);have H:(s.data.toList.take j).length=j:=by rw[yl,Zb];omega
    rw[yJ,yg,ym];omega
   have x:Hid (l++47 :: Zz (s.data.toList.take (j+1))=(l++47 :: Zz (s.data.toList.take j))++Qz s[j]):=by
    show _=_
    rw[WT s j z,Nn];simp
   generalize l++47 :: Zz (s.data.toList.take j)=q at *;clear p r;by_cases a:(s[j].toNat:Int)=126
   ·have F:((s[j].toNat:Int) ==126)=true:=by simpa using a
    have u:=zh (Nr a);clear a;go_wp2_with (go_at_call 194;refine (NI B b _ _ _ o (by show _+2<=_;omega) k).mono ?_);rintro e D ⟨rfl,n,g⟩;have f:=zH.str (m:=[126,48]) rfl n;clear n o A;go_wp2;go_roundw
    case rel=>exact⟨j+1,by omega,by go_num,by rw[uh x,uh u];exact f,v.trans g⟩
    case measure=>simp[intOf];omega
   ·have F:((s[j].toNat:Int) ==126)=false:=by simpa using a
    by_cases d:(s[j].toNat:Int)=47
    ·have G:((s[j].toNat:Int) ==47)=true:=by simpa using d
     have u:=zh (Ns d);clear a d;go_wp2_with (go_at_call 194;refine (NI B b _ _ _ o (by show _+2<=_;omega) k).mono ?_);rintro e D ⟨rfl,n,g⟩;have f:=zH.str (m:=[126,49]) rfl n;clear n o A;go_wp2;go_roundw
     case rel=>exact⟨j+1,by omega,by go_num,by rw[uh x,uh u];exact f,v.trans g⟩
     case measure=>simp[intOf];omega
    ·have G:((s[j].toNat:Int) ==47)=false:=by simpa using d
     have u:=zh (XI a d);clear a d;go_wp2_with (go_at_call 186;refine (WV B b _ _ _ o (by omega) k).mono ?_);rintro e D ⟨rfl,n,g⟩;have f:=zH.byte (c:=s[j]) rfl n;clear n o A;go_wp2;go_roundw
     case rel=>exact⟨j+1,by omega,by go_num,by rw[uh x,uh u];exact f,v.trans g⟩
     case measure=>simp[intOf];omega
  ·have y:j=s.size:=by omega
   subst y;rw[XH]at o;clear p r;go_wp2;go_end0;exact⟨rfl,o,v⟩
theorem MQ(xa:Option Addr)(xb xo xc:Nat)(ss:List Bs)(w:Wo)(h:SS w xa xb xo ss)(hm:ss.length+Z9 ss<=1048576):
  Calls Tryz.prog 108 #[.slice xa ss.length xc] w fun e w'=>e= .returned (.string ⟨(Zf ss).toArray⟩)/\Bw w w':=by
 have a:=h.ad;have HC:=zh h.cell;clear h;have r:ss.length<=1048576:=by omega
 have o:=zh hm;clear hm;go_in;go_wp2;go_loopw [8] (fun i wr=>∃ k:Nat,k<=ss.length/\i= .int .i64 k/\zH w.heap.size w.heap.size (Zf (ss.take k)) wr/\Bw w wr) (fun i _=>ss.length - (intOf i).toNat)
 case atStart=>exact⟨0,yr _,rfl,Lib.fresh_isBuilder _ _ w,(yG _ _).alloc (yd _) _⟩
 case round=>
  obtain⟨k,B,rfl,j,l⟩:=hrel;have d:=l.size;by_cases b:k<ss.length
  ·have g:=uh HC k b;have A:=(l.cell (p:=⟨xb,xo+k,none⟩) (yI _ _ g)).trans g;obtain rfl:=a (by omega);have n:(ss.getD k ByteArray.empty).size<=1048576:=by have:=WU b;have:=uh o;omega
   have m:(Zf (ss.take k)).length<=2097152:=by
    have x:=Nq (ss.take k);have q:=WU b;have y:=uh o;have z:(ss.take k).length=k:=by rw[yl];omega
    omega
   have u:Hid (Zf (ss.take (k+1))=Zf (ss.take k)++47 :: Zz (ss.getD k ByteArray.empty).data.toList):=by
    show _=_;rw[XG b,Np]
   clear a g;generalize ss.getD k ByteArray.empty=s at *;generalize Zf (ss.take k)=p at *;go_wp2_with (go_at_call 155;refine (MP w.heap.size w.heap.size p s _ j d n m).mono ?_);rintro e v ⟨rfl,q,f⟩;clear j;go_wp2;go_roundw
   case rel=>exact⟨k+1,by omega,by go_num,by rw[uh u];exact q,l.trans f⟩
   case measure=>simp[intOf];omega
  ·have e:ss.take k=ss:=yp (by omega);rw[e]at j;have E:=zh e;clear a e;go_wp2_with (go_at_call 81;refine (WW w.heap.size w.heap.size (Zf ss) _ j d).mono ?_);rintro e v ⟨rfl,f⟩;clear j;go_wp2;go_ret;exact⟨rfl,l.trans f⟩
end Go.Proofs.YtpaecnbdoljafaaGreatDoor
namespace Go.Proofs.YtpaecnbdoljafaaGreatDoor
theorem WY{c:UInt8}{n:Nat}(h:c.toNat=n):c=UInt8.ofNat n:=by rw[← h,UInt8.ofNat_toNat]
theorem Kg:∀ (n:Nat) (l t:List UInt8),l.length<=n->zJ l=some t->(∀ c∈l,¬ c.toNat=47)->Zz t=l
 | _,[],t,_,h,_=>by rw[zJ]at h;injection h with h;subst h;rfl
 | 0,c :: r,t,hn,_,_=>by simp at hn
 | n+1,c :: r,t,hn,h,hc=>by
  by_cases h1:c.toNat=126
  ·have hcI:(c.toNat:Int)=126:=by omega
   have j:=WY h1
   cases r with
   | nil=>rw[UZ hcI]at h;cases h
   | cons d r=>
    have k:r.length<=n:=by simp at hn;omega
    have b:∀ c∈r,¬ c.toNat=47:=fun x hx=>hc x (yu _ (yu _ hx));by_cases m:d.toNat=48
    ·have i:=WY m;rw[U0 r hcI (by omega)]at h;simp only[yy]at h;obtain⟨a,f,rfl⟩:=h;have g:=Kg n r a k f b;show Qz 126++Zz a=_
     rw[g,j,i];rfl
    ·by_cases o:d.toNat=49
     ·have i:=WY o;rw[U1 r hcI (by omega)]at h;simp only[yy]at h;obtain⟨a,f,rfl⟩:=h;have g:=Kg n r a k f b;show Qz 47++Zz a=_
      rw[g,j,i];rfl
     ·rw[U2 r hcI (by omega) (by omega)]at h;cases h
  ·rw[UY r (by omega)]at h;simp only[yy]at h;obtain⟨a,f,rfl⟩:=h;have g:=Kg n r a (by simp at hn;omega) f (fun x hx=>hc x (yu _ hx));show Qz c++Zz a=_
   have p:=hc c yo;rw[g,XI (by omega) (by omega)];rfl
theorem NW:∀ (l p:List UInt8) (ps:List (List UInt8)),ZH l=p :: ps->l=p++ps.flatMap (47 :: ·)/\∀ q∈p :: ps,∀ c∈q,¬ c.toNat=47
 | [],p,ps,h=>by
  rw[ZH]at h;injection h with h1 h2;subst h1;subst h2;exact⟨rfl,fun q hq c hc=>by simp at hq;subst hq;simp at hc⟩
 | c :: r,p,ps,h=>by
  obtain⟨p',ps',e⟩:∃ p' ps',ZH r=p' :: ps':=by
   cases hp:ZH r with
   | nil=>exact absurd hp (GL r)
   | cons a b=>exact⟨a,b,rfl⟩
  obtain⟨h1,h2⟩:=NW r p' ps' e;by_cases hc:c.toNat=47
  ·rw[GM r hc,e]at h;injection h with e1 e2;subst e1;subst e2;refine⟨?_,fun q hq x hx=>?_⟩
   ·have d:=WY hc;rw[d,h1];rfl
   ·rcases List.mem_cons.1 hq with rfl | hq
    ·simp at hx
    ·exact h2 q hq x hx
  ·rw[Vh hc e]at h;injection h with e1 e2;subst e1;subst e2;refine⟨by rw[List.cons_append,← h1],fun q hq x hx=>?_⟩;rcases List.mem_cons.1 hq with rfl | hq
   ·rcases List.mem_cons.1 hx with rfl | hx
    ·exact hc
    ·exact h2 p' yo x hx
   ·exact h2 q (yu _ hq) x hx
theorem NX:∀ (ps ts:List (List UInt8)),ps.mapM zJ=some ts->(∀ q∈ps,∀ c∈q,¬ c.toNat=47)->ts.map Zz=ps
 | [],ts,h,_=>by simp at h;subst h;rfl
 | p :: ps,ts,h,hp=>by
  rw[List.mapM_cons]at h
  cases h1:zJ p with
  | none=>rw[h1]at h;cases h
  | some t=>
   cases h2:ps.mapM zJ with
   | none=>rw[h1,h2]at h;cases h
   | some ts'=>
    rw[h1,h2]at h;injection h with h;subst h;rw[yh,Kg p.length p t (yd _) h1 (hp p yo),NX ps ts' h2 (fun q hq=>hp q (yu _ hq))]
theorem MR(ts:List (List UInt8)):Zf (ts.map Zc)=(ts.map Zz).flatMap (47 :: ·):=by
 unfold Zf;rw[List.flatMap_map,List.flatMap_map];rfl
theorem MS{l:List UInt8}{ts:List (List UInt8)}(h:zG l=some ts):Zf (ts.map Zc)=l:=by
 cases l with
 | nil=>rw[zG]at h;injection h with h;subst h;rfl
 | cons c r=>
  rw[zG]at h;split at h
  ·rename_i hc;obtain⟨p,d,e⟩:∃ p d,ZH r=p :: d:=by
    cases hp:ZH r with
    | nil=>exact absurd hp (GL r)
    | cons a b=>exact⟨a,b,rfl⟩
   obtain⟨g,i⟩:=NW r p d e;unfold Qc at h;rw[e]at h;rw[MR,NX _ ts h i];have f:=WY hc;rw[f,g];rfl
  ·cases h
def ptr(ts:List (List UInt8)):List UInt8:=ts.flatMap (fun t=>47 :: Zz t)
def NY(x y:List UInt8):Bool:=Lib.hasPrefix y x && (match Lib.trimPrefix y x with | []=>true | c :: _=>c.toNat ==47)
end Go.Proofs.YtpaecnbdoljafaaGreatDoor
namespace Go.Proofs.YtpaecnbdoljafaaGreatDoor
open Go.ChangeShapes Go.WideShapes Go.ChangeAt Go.RowKit
theorem MT{n:Int}(h:(Lit.int .u8 n).wf=true):((UInt8.ofNat n.toNat).toNat:Int)=n:=by
 have a:=bounds_u8 h;rw[UInt8.toNat_ofNat'];omega
theorem MU{W:Wo}{x:Addr}{len cap:Nat}{zs:List Int}(hl:len<=cap)(hz:zs.length=cap)(hcell:∀ i,i<zs.length->W.cell? (x.add i)=some (.int .u8 (zs.getD i 0)))(hwz:∀ n∈zs,(Lit.int .u8 n).wf=true):
  ∃ bb bo l,len=List.length l/\BS W (some x) bb bo l/\l.length<=cap:=by
 obtain⟨b,off,g⟩:=x;by_cases o:len=0
 ·exact⟨0,0,[],o,⟨fun h=>absurd h (by simp),fun j hj=>absurd hj (by simp)⟩,yr _⟩
 ·have q:=hcell 0 (by omega);have d:g=none:=by simpa [Addr.add]using World.cell?_spot q
  subst d;have k:((zs.take len).map (fun n=>UInt8.ofNat n.toNat)).length=len:=by simp;omega
  refine⟨b,off,(zs.take len).map (fun n=>UInt8.ofNat n.toNat),k.symm,⟨fun _=>rfl,fun j hj=>?_⟩,by omega⟩;have a:j<zs.length:=by omega
  have f:=hcell j a;rw[Go.WideShapes.add_plain]at f;rw[f];have e:zs.getD j 0=zs[j]:=by simp[a]
  have p:=MT (hwz zs[j] (yq a));have m:((zs.take len).map (fun n=>UInt8.ofNat n.toNat)).getD j 0=UInt8.ofNat zs[j].toNat:=by
   have:j<len:=by omega
   simp[List.getD,this,a]
  rw[e,m,p]
end Go.Proofs.YtpaecnbdoljafaaGreatDoor
