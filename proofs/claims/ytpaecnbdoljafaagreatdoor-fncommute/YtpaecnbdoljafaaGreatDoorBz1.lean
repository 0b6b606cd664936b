import Derived.Test.YtpaecnbdoljafaaGreatDoorRows
import Derived.Lib.SplitLaws
import Derived.BigQuiet
import Derived.Laws.AppendOwnNone
import Derived.Lib.TrimUEq
import Derived.Lib.ValidU
import Derived.Lib.RuneBytes
import Derived.Shelf.Strings.Builder1
import Derived.Shelf.Unicode.DecodeSlow
import Derived.Lib.OthersKept
import Derived.Room.AppendZeros
import Derived.Shelf.Small.Wraps
import Derived.ProofKit
import Derived.OpenShut
set_option maxRecDepth 100000
set_option maxHeartbeats 8000000
namespace Go.Proofs.YtpaecnbdoljafaaGreatDoor
open Go.RowKit
abbrev Bs:=ByteArray
abbrev Wo:=World
abbrev Bw(w w':Wo):=Below w.heap.size w w'
abbrev Rk(v:Value)(w:Wo)(e:Ending)(w':Wo):Prop:=e= .returned v/\w=w'
abbrev Rb(v:Value)(w:Wo)(e:Ending)(w':Wo):Prop:=e= .returned v/\Bw w w'
theorem yd.{u}:type_of% @beq_eq_false_iff_ne.{u}:=@beq_eq_false_iff_ne
theorem ye:type_of% @Nat.le_refl:=@Nat.le_refl
theorem yf.{u}:type_of% @if_neg.{u}:=@if_neg
theorem yg.{u}:type_of% @if_pos.{u}:=@if_pos
theorem yh.{u}:type_of% @List.length_append.{u}:=@List.length_append
theorem yi.{u,v}:type_of% @List.map_cons.{u,v}:=@List.map_cons
theorem yj:type_of% @decide_eq_true:=@decide_eq_true
theorem yk:type_of% @decide_eq_false:=@decide_eq_false
theorem yl.{u,v}:type_of% @List.length_map.{u,v}:=@List.length_map
theorem ym.{u}:type_of% @List.length_take.{u}:=@List.length_take
theorem yp.{u}:type_of% @List.length_cons.{u}:=@List.length_cons
theorem yq.{u}:type_of% @List.mem_cons_self.{u}:=@List.mem_cons_self
theorem yr.{u}:type_of% @List.take_of_length_le.{u}:=@List.take_of_length_le
theorem yt.{u}:type_of% @List.getElem_mem.{u}:=@List.getElem_mem
theorem yu:type_of% @Nat.zero_le:=@Nat.zero_le
theorem yv.{u}:type_of% @List.length_drop.{u}:=@List.length_drop
theorem yw.{u}:type_of% @List.mem_cons_of_mem.{u}:=@List.mem_cons_of_mem
theorem yx.{u,v}:type_of% @List.map_append.{u,v}:=@List.map_append
theorem yy.{u}:type_of% @List.getElem?_eq_getElem.{u}:=@List.getElem?_eq_getElem
theorem yz.{u}:type_of% @List.take_succ_eq_append_getElem.{u}:=@List.take_succ_eq_append_getElem
theorem yA.{u,v}:type_of% @Option.map_eq_some_iff.{u,v}:=@Option.map_eq_some_iff
theorem yB.{u,v}:type_of% @Option.bind_some.{u,v}:=@Option.bind_some
theorem yC.{u}:type_of% @Array.getElem?_eq_some_iff.{u}:=@Array.getElem?_eq_some_iff
theorem yD.{u}:type_of% @beq_iff_eq.{u}:=@beq_iff_eq
theorem yE.{u}:type_of% @List.length_nil.{u}:=@List.length_nil
theorem yF:type_of% @Nat.lt_of_lt_of_le:=@Nat.lt_of_lt_of_le
theorem yG:type_of% @Lib.cell_of_heap:=@Lib.cell_of_heap
theorem yH:type_of% @heap_alloc_new:=@heap_alloc_new
theorem yI:type_of% @Below.refl:=@Below.refl
theorem yJ:type_of% @Lib.frozen_of_heap:=@Lib.frozen_of_heap
theorem yK:type_of% @World.block_lt_of_cell?:=@World.block_lt_of_cell?
theorem yL:type_of% @Lib.byteCells_length:=@Lib.byteCells_length
theorem yM.{u}:type_of% @List.sum_cons.{u}:=@List.sum_cons
theorem yO.{u}:type_of% @List.eq_nil_of_length_eq_zero.{u}:=@List.eq_nil_of_length_eq_zero
theorem yP.{u,v}:type_of% @List.mem_map.{u,v}:=@List.mem_map
theorem yQ:type_of% @Nat.le_trans:=@Nat.le_trans
theorem yR:type_of% @eq_false:=@eq_false
theorem yT.{u}:type_of% @List.append_nil.{u}:=@List.append_nil
theorem yY.{u}:type_of% @List.mem_iff_getElem.{u}:=@List.mem_iff_getElem
structure SS(w:Wo)(xa:Option Addr)(xb xo:Nat)(ss:List Bs):Prop where
 ad:0<ss.length->xa=some ⟨xb,xo,none⟩
 cell:∀ j,j<ss.length->w.cell? ⟨xb,xo+j,none⟩=some (.string (ss.getD j ByteArray.empty))
theorem SS.below{w w':Wo}{xa:Option Addr}{xb xo:Nat}{ss:List Bs}(h:SS w xa xb xo ss)(hb:Bw w w'):SS w' xa xb xo ss:=
 ⟨h.ad,fun j hj=>(hb.cell (p:=⟨xb,xo+j,none⟩) (yK _ _ (h.cell j hj))).trans (h.cell j hj)⟩
theorem zi{w w1 w2:Wo}(h:Bw w w1)(k:Bw w1 w2):Bw w w2:=h.trans (k.mono h.size)
def qH(ss:List Bs):Nat:=(ss.map ByteArray.size).sum
theorem Xz{ss:List Bs}{j:Nat}(hj:j<ss.length):ss.take (j+1)=ss.take j++[ss.getD j ByteArray.empty]:=by
 rw[List.take_add_one,yy hj];simp[List.getD,hj]
theorem Ax(ss:List Bs)(s:Bs):qH (ss++[s])=qH ss+s.size:=by simp[qH]
theorem Ay(ss:List Bs)(k:Nat):qH (ss.take k)<=qH ss:=by
 have h:qH ss=qH (ss.take k)+qH (ss.drop k):=by
  unfold qH;rw[← List.sum_append,← yx,List.take_append_drop]
 omega
theorem ze{p:Prop}(h:p):Hid p:=h
theorem uh{p:Prop}(h:Hid p):p:=h
theorem Wj{k:IntKind}{a b:Int}(h:a=b):Ending.returned (.int k a)= .returned (.int k b):=by rw[h]
def QV(c:UInt8):List UInt8:=if c.toNat=126 then [126,48]else if c.toNat=47 then [126,49]else [c]
def zT(l:List UInt8):List UInt8:=l.flatMap QV
def ZC(ss:List Bs):List UInt8:=ss.flatMap (fun s=>47 :: zT s.data.toList)
theorem Az(c:UInt8):(QV c).length<=2:=by unfold QV;split<;>(try split)<;>simp
theorem Vg(l:List UInt8):(zT l).length<=2*l.length:=by
 induction l with
 | nil=>simp[zT]
 | cons c l ih=>have:=Az c;simp only[zT,List.flatMap_cons,yh,yp]at *;omega
theorem S9(l:List UInt8)(c:UInt8):zT (l++[c])=zT l++QV c:=by simp[zT]
theorem Da(ss:List Bs)(s:Bs):ZC (ss++[s])=ZC ss++47 :: zT s.data.toList:=by simp[ZC]
theorem Zg(s:Bs):s.data.toList.length=s.size:=Array.length_toList
theorem Db(ss:List Bs):(ZC ss).length<=ss.length+2*qH ss:=by
 induction ss with
 | nil=>simp[ZC,qH]
 | cons s ss ih=>
  have:=Vg s.data.toList;have e:=Zg s;simp only[ZC,qH,List.flatMap_cons,yh,yp,yi,yM]at *;omega
theorem Ua(s:Bs)(k:Nat)(h:k<s.size):s.data.toList.take (k+1)=s.data.toList.take k++[s[k]]:=by
 rw[yz (by simpa using h)];rfl
theorem XA(s:Bs):s.data.toList.take s.size=s.data.toList:=yr (Nat.le_of_eq (Zg s))
theorem U6{ss:List Bs}{j:Nat}(hj:j<ss.length):qH (ss.take j)+(ss.getD j ByteArray.empty).size<=qH ss:=by
 have:=Ay ss (j+1);rw[Xz hj,Ax]at this;exact this
theorem OY{c:UInt8}(h:(c.toNat:Int)=126):QV c=[126,48]:=by unfold QV;rw[yg (by omega)]
theorem OZ{c:UInt8}(h:(c.toNat:Int)=47):QV c=[126,49]:=by unfold QV;rw[yf (by omega),yg (by omega)]
theorem U7{c:UInt8}(h:¬ (c.toNat:Int)=126)(h':¬ (c.toNat:Int)=47):QV c=[c]:=by unfold QV;rw[yf (by omega),yf (by omega)]
theorem Gf:(Tryz.prog.info? 5).map (fun i=>(i.zero,i.size,i.bytes))=some (some (.int .u8 0),1,1):=by kernel_rfl
theorem XB{l:List UInt8}{j:Nat}(hj:j<l.length):(Lib.byteCells l)[j]?=some (.int .u8 (l[j].toNat:Int)):=by simp[Lib.byteCells,hj]
theorem Qi(w:Wo)(t:TypeId)(x:Value):∀ j u,[x][j]?=some u->(w.alloc (.cells #[x] t)).cell? ((⟨w.heap.size,0,none⟩:Addr).add j)=some u:=by
 intro j u a
 match j,a with
 | 0,a=>simp at a;subst a;simp[Addr.add]
theorem Jw(w:Wo)(t:TypeId)(x y:Value):∀ j u,[x,y][j]?=some u->(w.alloc (.cells #[x,y] t)).cell? ((⟨w.heap.size,0,none⟩:Addr).add j)=some u:=by
 intro j u a
 match j,a with
 | 0,a=>simp at a;subst a;simp[Addr.add]
 | 1,a=>simp at a;subst a;simp[Addr.add]
theorem YH(k:IntKind)(a:Int):∀ u∈[Value.int k a],u.oneCell'=true:=by intro u b;simp at b;subst b;rfl
theorem JQ(k:IntKind)(a b:Int):∀ u∈[Value.int k a,Value.int k b],u.oneCell'=true:=by
 intro u d;simp at d;rcases d with rfl | rfl<;>rfl
theorem ZY{w1:Wo}{B e:Nat}{v':Value}{l m:List UInt8}{news:List Value}{k:Nat}(h:w1.ownsRow B e 1 v' ((Lib.byteCells l).length+k) (Lib.byteCells l++news))(hn:news=Lib.byteCells m)(hk:k=m.length):
  w1.ownsRow B e 1 v' (Lib.byteCells (l++m)).length (Lib.byteCells (l++m)):=by
 subst hn;subst hk;rw[Lib.byteCells_append];have:(Lib.byteCells l++Lib.byteCells m).length=(Lib.byteCells l).length+m.length:=by simp[Lib.byteCells]
 rw[this];exact h
theorem Gg{w:Wo}{B:Nat}{v:Value}{l:List UInt8}(h:w.ownsRow B 5 1 v (Lib.byteCells l).length (Lib.byteCells l)):(convert 22 9 v).run Tryz.prog w= .ok (.string ⟨l.toArray⟩) w:=by
 have i:=yL l;rcases h.2 with ⟨b,k⟩ |⟨g,a,d,b,_⟩
 ·have f:l=[]:=yO (by omega);subst b;subst f;exact run_convert_bytes_nil (P:=Tryz.prog) w 22 5 Tryz.underlying22 Tryz.underlying5 0 0 9 Tryz.underlying9
 ·subst b;rw[i]at h ⊢;exact run_convert_bytes_back (P:=Tryz.prog) w 22 9 5 ⟨g,0,none⟩ a l Tryz.underlying22 Tryz.underlying5 Tryz.underlying9 (fun j hj=>by
   rw[show ((⟨g,0,none⟩:Addr).add j)=⟨g,j,none⟩from by simp[Addr.add];omega,h.cellAt j (by omega)];exact XB hj)
def zQ:List UInt8->Option (List UInt8)
 | []=>some []
 | c :: r=>
  if c.toNat=126 then
   match r with
   | []=>none
   | d :: r'=>if d.toNat=48 then (zQ r').map (126 :: ·)else if d.toNat=49 then (zQ r').map (47 :: ·)else none
  else (zQ r).map (c :: ·)
theorem Ub{c:UInt8}(r:List UInt8)(h:¬ (c.toNat:Int)=126):zQ (c :: r)=(zQ r).map ([c]++·):=by
 rw[zQ.eq_def];simp only;rw[yf (by omega)];rfl
theorem U8{c:UInt8}(h:(c.toNat:Int)=126):zQ [c]=none:=by
 rw[zQ.eq_def];simp only;rw[yg (by omega)]
theorem Uc{c d:UInt8}(r:List UInt8)(h:(c.toNat:Int)=126)(h':(d.toNat:Int)=48):zQ (c :: d :: r)=(zQ r).map ([126]++·):=by
 rw[zQ.eq_def];simp only;rw[yg (by omega),yg (by omega)];rfl
theorem Ud{c d:UInt8}(r:List UInt8)(h:(c.toNat:Int)=126)(h':(d.toNat:Int)=49):zQ (c :: d :: r)=(zQ r).map ([47]++·):=by
 rw[zQ.eq_def];simp only;rw[yg (by omega),yf (by omega),yg (by omega)];rfl
theorem U9{c d:UInt8}(r:List UInt8)(h:(c.toNat:Int)=126)(h':¬ (d.toNat:Int)=48)(h'':¬ (d.toNat:Int)=49):zQ (c :: d :: r)=none:=by
 rw[zQ.eq_def];simp only;rw[yg (by omega),yf (by omega),yf (by omega)]
def Jp(l:List UInt8)(j:Nat)(acc:List UInt8):Prop:=zQ l=(zQ (l.drop j)).map (acc++·)
theorem Jp.start(l:List UInt8):Jp l 0 []:=by simp[Jp]
theorem Jp.step{l:List UInt8}{j k:Nat}{acc m:List UInt8}(h:Jp l j acc)(hs:zQ (l.drop j)=(zQ (l.drop k)).map (m++·)):Jp l k (acc++m):=by
 unfold Jp at *;rw[h,hs,Option.map_map];congr 1;funext x;simp
theorem Jp.bad{l:List UInt8}{j:Nat}{acc:List UInt8}(h:Jp l j acc)(hs:zQ (l.drop j)=none):zQ l=none:=by
 unfold Jp at h;rw[h,hs];rfl
theorem Jp.fin{l:List UInt8}{j:Nat}{acc:List UInt8}(h:Jp l j acc)(hj:l.length<=j):zQ l=some acc:=by
 unfold Jp at h;rw[h,List.drop_eq_nil_of_le hj];simp[zQ]
theorem Qw(s:Bs)(j:Nat)(h:j<s.size):s.data.toList.drop j=s[j] :: s.data.toList.drop (j+1):=by
 rw[List.drop_eq_getElem_cons (by rw[Zg];exact h)];rfl
theorem Ue(s:Bs)(j:Nat)(h:¬ j<s.size):s.data.toList.drop j=[]:=List.drop_eq_nil_of_le (by rw[Zg];omega)
def XC(o:Option (List UInt8)):Value:=.tuple #[.string ⟨(o.getD []).toArray⟩,.bool o.isSome]
def ZK:List UInt8->List (List UInt8)
 | []=>[[]]
 | c :: r=>if c.toNat=47 then [] :: ZK r else (match ZK r with | []=>[[c]] | p :: ps=>(c :: p) :: ps)
theorem Gh(l:List UInt8):ZK l≠[]:=by
 cases l with
 | nil=>simp[ZK]
 | cons c r=>
  rw[ZK];split
  ·simp
  ·split<;>simp
theorem Gi{c:UInt8}(r:List UInt8)(h:c.toNat=47):ZK (c :: r)=[] :: ZK r:=by rw[ZK,yg h]
theorem Vh{c:UInt8}{r p:List UInt8}{ps:List (List UInt8)}(h:¬ c.toNat=47)(hr:ZK r=p :: ps):ZK (c :: r)=(c :: p) :: ps:=by rw[ZK,yf h,hr]
theorem Dc:∀ l:List UInt8,Lib.splitK [47] 0 (Lib.count l [47]) l=ZK l
 | []=>by rw[Lib.count_miss (by simp[Lib.index])];rfl
 | c :: r=>by
  have ih:=Dc r;by_cases h:c=47
  ·subst h;have a:Lib.index (47 :: r) [47]=((0:Nat):Int):=by rw[Lib.index];simp[List.isPrefixOf]
   rw[Lib.count_cons_eq,Nat.add_comm,Lib.splitK,a];rw[Gi r (by decide),← ih];simp
  ·have k:([47]:List UInt8).isPrefixOf (c :: r)=false:=by simp[List.isPrefixOf,Ne.symm h]
   have a:Lib.index (c :: r) [47]=if Lib.index r [47] == -1 then -1 else Lib.index r [47]+1:=by rw[Lib.index,k];simp
   have g:¬ c.toNat=47:=fun e=>h (by have:=UInt8.ofNat_toNat (x:=c);rw[e]at this;exact this.symm);rw[Lib.count_cons_ne c 47 r h];by_cases f:Lib.index r [47]= -1
   ·rw[Lib.count_miss f]at ih ⊢;rw[Lib.splitK]at ih ⊢;rw[Vh g ih.symm]
   ·have i:=Lib.index_ge r [47];obtain⟨j,d⟩:∃ j:Nat,Lib.index r [47]=j:=⟨(Lib.index r [47]).toNat,by omega⟩;have b:Lib.index (c :: r) [47]=((j+1:Nat):Int):=by rw[a,yf (fun e=>f (yD.1 e)),d];omega
    rw[Lib.count_hit (by simp) d,Nat.add_comm]at ih ⊢;rw[Lib.splitK,d]at ih;rw[Lib.splitK,b];rw[yf (fun e=>by have:=yD.1 e;omega)]at ih ⊢;simp only[Int.toNat_natCast,Nat.add_zero]at ih ⊢;rw[Vh g ih.symm];simp
theorem AA(s:Bs):(Lib.splitB ⟨#[47]⟩ 0 (Lib.countB s ⟨#[47]⟩) s).map (·.data.toList)=ZK s.data.toList:=by
 rw[Lib.splitB_data];exact Dc _
def Qq(l:List UInt8):Option (List (List UInt8)):=(ZK l).mapM zQ
def zK:List UInt8->Option (List (List UInt8))
 | []=>some []
 | c :: r=>if c.toNat=47 then Qq r else none
theorem Zd{w w1:Wo}{B e size n:Nat}{v:Value}{xs:List Value}(h:w.ownsRow B e size v n xs)(hb:Bw w w1):w1.ownsRow B e size v n xs:=by
 refine⟨h.1,?_⟩;rcases h.2 with f |⟨g,a,b,j,i,d,r⟩
 ·exact .inl f
 ·exact .inr ⟨g,a,b,j,i,(hb.block g (yC.1 d).1).trans d,r⟩
theorem QO{w:Wo}{B B' e size n:Nat}{v:Value}{xs:List Value}(h:w.ownsRow B e size v n xs)(hB:B'<=B):w.ownsRow B' e size v n xs:=by
 refine⟨h.1,?_⟩;rcases h.2 with d |⟨g,a,b,i,f,r⟩
 ·exact .inl d
 ·exact .inr ⟨g,a,b,i,yQ hB f,r⟩
theorem Vi:(Tryz.prog.info? 9).map (fun i=>(i.zero,i.size,i.bytes))=some (some (.string ByteArray.empty),1,16):=by kernel_rfl
def QJ(t:List UInt8):Value:=.string ⟨t.toArray⟩
abbrev OT(w:Wo)(B:Nat)(v:Value)(ts:List (List UInt8)):Prop:=w.ownsRow B 9 1 v ts.length (ts.map QJ)
def zH(t:List UInt8):Bs:=⟨t.toArray⟩
theorem OT.shape{w:Wo}{B:Nat}{v:Value}{ts:List (List UInt8)}(h:OT w B v ts):∃ a g cap,v= .slice a ts.length cap/\SS w a g 0 (ts.map zH)/\(0<ts.length->B<=g):=by
 rcases h.2 with ⟨b,f⟩ |⟨g,cap,d,b,i,k,_⟩
 ·exact⟨none,0,0,by rw[b,f],⟨fun h=>by rw[yl]at h;omega,fun j hj=>by rw[yl]at hj;omega⟩,fun h=>by omega⟩
 ·refine⟨some ⟨g,0,none⟩,g,cap,b,⟨fun _=>rfl,fun j hj=>?_⟩,fun _=>i⟩;subst b;rw[yl]at hj;rw[Nat.zero_add,h.cellAt j (by omega)];simp[QJ,zH,hj]
theorem Vj(s:Bs):∀ u∈[Value.string s],u.oneCell'=true:=by intro u a;simp at a;subst a;rfl
theorem OT.step{w:Wo}{B:Nat}{v:Value}{ts:List (List UInt8)}{t:List UInt8}(h:w.ownsRow B 9 1 v (ts.length+1) (ts.map QJ++[QJ t])):OT w B v (ts++[t]):=by
 unfold OT;rw[yh,yx];exact h
theorem O4(t:List UInt8):XC (some t)= .tuple #[.string (zH t),.bool true]:=rfl
theorem O5:XC none= .tuple #[.string ⟨#[]⟩,.bool false]:=rfl
def Q1(l:List UInt8)(f k:Nat):Prop:=∀ m,f<=m->m<k->∀ c,l[m]?=some c->¬ c.toNat=47
theorem Dd{p:List UInt8}(hp:∀ c∈p,¬ c.toNat=47){c:UInt8}(hc:c.toNat=47)(r:List UInt8):ZK (p++c :: r)=p :: ZK r:=by
 induction p with
 | nil=>exact Gi r hc
 | cons a p ih=>
  have:=ih (fun c hc=>hp c (yw _ hc));exact Vh (hp a yq) this
theorem De{p:List UInt8}(hp:∀ c∈p,¬ c.toNat=47):ZK p=[p]:=by
 induction p with
 | nil=>rfl
 | cons a p ih=>
  have:=ih (fun c hc=>hp c (yw _ hc));exact Vh (hp a yq) this
theorem Q1.piece{l:List UInt8}{f k:Nat}(h:Q1 l f k):∀ c∈(l.drop f).take (k - f),¬ c.toNat=47:=by
 intro c a;obtain⟨i,b,rfl⟩:=yY.1 a;rw[ym,yv]at b;refine h (f+i) (by omega) (by omega) _ ?_;rw[List.getElem_take,List.getElem_drop,yy (by omega)]
theorem Q1.cut{l:List UInt8}{f k:Nat}(h:Q1 l f k)(hfk:f<=k)(hk:k<l.length)(hc:l[k].toNat=47):ZK (l.drop f)=(l.drop f).take (k - f) :: ZK (l.drop (k+1)):=by
 have e:l.drop f=(l.drop f).take (k - f)++l[k] :: l.drop (k+1):=by
  have a:=(List.take_append_drop (k - f) (l.drop f)).symm;rw[List.drop_drop,show f+(k - f)=k from by omega,List.drop_eq_getElem_cons hk]at a;exact a
 have b:=Dd h.piece hc (l.drop (k+1));rw[← e]at b;exact b
theorem Q1.last{l:List UInt8}{f:Nat}(h:Q1 l f l.length):ZK (l.drop f)=[l.drop f]:=by
 have a:=h.piece;rw[yr (by rw[yv];omega)]at a;exact De a
theorem Q1.snoc{l:List UInt8}{f k:Nat}(h:Q1 l f k)(hk:k<l.length)(hc:¬ l[k].toNat=47):Q1 l f (k+1):=by
 intro m b d c a;by_cases e:m=k
 ·subst e;rw[yy hk]at a;simp at a;subst a;exact hc
 ·exact h m b (by omega) c a
theorem Q1.none(l:List UInt8)(k:Nat):Q1 l k k:=fun m h1 h2=>by omega
theorem XD{l p:List UInt8}{ps:List (List UInt8)}(h:ZK l=p :: ps):Qq l=(zQ p).bind fun t=>(ps.mapM zQ).map (t :: ·):=by
 unfold Qq;rw[h,List.mapM_cons]
 cases zQ p with
 | none=>rfl
 | some t=>cases List.mapM zQ ps<;>rfl
def JR(l:List UInt8)(f:Nat)(done:List (List UInt8)):Prop:=Qq (l.drop 1)=(Qq (l.drop f)).map (done++·)
theorem JR.cut{l:List UInt8}{f k:Nat}{done:List (List UInt8)}{t:List UInt8}(h:JR l f done)(hn:Q1 l f k)(hfk:f<=k)(hk:k<l.length)(hc:l[k].toNat=47)(hu:zQ ((l.drop f).take (k - f))=some t):JR l (k+1) (done++[t]):=by
 unfold JR at *;rw[h,XD (hn.cut hfk hk hc),hu];show Option.map (done++·) (Option.map (t :: ·) (Qq (l.drop (k+1))))=_
 rw[Option.map_map];congr 1;funext x;simp
theorem JR.cutBad{l:List UInt8}{f k:Nat}{done:List (List UInt8)}(h:JR l f done)(hn:Q1 l f k)(hfk:f<=k)(hk:k<l.length)(hc:l[k].toNat=47)(hu:zQ ((l.drop f).take (k - f))=none):Qq (l.drop 1)=none:=by
 unfold JR at h;rw[h,XD (hn.cut hfk hk hc),hu];rfl
theorem JR.last{l:List UInt8}{f:Nat}{done:List (List UInt8)}{t:List UInt8}(h:JR l f done)(hn:Q1 l f l.length)(hu:zQ ((l.drop f).take (l.length - f))=some t):Qq (l.drop 1)=some (done++[t]):=by
 rw[yr (by rw[yv];omega)]at hu;unfold JR at h;rw[h,XD hn.last,hu];rfl
theorem JR.lastBad{l:List UInt8}{f:Nat}{done:List (List UInt8)}(h:JR l f done)(hn:Q1 l f l.length)(hu:zQ ((l.drop f).take (l.length - f))=none):Qq (l.drop 1)=none:=by
 rw[yr (by rw[yv];omega)]at hu;unfold JR at h;rw[h,XD hn.last,hu];rfl
theorem Df{l:List UInt8}(h0:0<l.length)(hc:l[0].toNat=47):zK l=Qq (l.drop 1):=by
 cases l with
 | nil=>simp at h0
 | cons c r=>simp only[List.getElem_cons_zero]at hc;rw[zK,yg hc];rfl
theorem Dh{l:List UInt8}(h0:0<l.length)(hc:¬ l[0].toNat=47):zK l=none:=by
 cases l with
 | nil=>simp at h0
 | cons c r=>simp only[List.getElem_cons_zero]at hc;rw[zK,yf hc]
theorem XE(s:Bs)(f k:Nat):(s.extract f k).data.toList=(s.data.toList.drop f).take (k - f):=by
 exact Lib.extract_data s f k
structure BS(w:Wo)(xa:Option Addr)(xb xo:Nat)(l:List UInt8):Prop where
 ad:0<l.length->xa=some ⟨xb,xo,none⟩
 cell:∀ j,j<l.length->w.cell? ⟨xb,xo+j,none⟩=some (.int .u8 (l.getD j 0).toNat)
theorem BS.grown{w w':Wo}{xa:Option Addr}{xb xo:Nat}{l:List UInt8}{r:Option Nat}(h:BS w xa xb xo l)(hg:w.grownBy w' r)(hne:0<l.length->some xb≠r):BS w' xa xb xo l:=
 ⟨h.ad,fun j hj=>hg.cell (h.cell j hj) (hne (by omega))⟩
theorem BS.below{w w':Wo}{xa:Option Addr}{xb xo:Nat}{l:List UInt8}(h:BS w xa xb xo l)(hb:Bw w w'):BS w' xa xb xo l:=
 ⟨h.ad,fun j hj=>(hb.cell (p:=⟨xb,xo+j,none⟩) (yK _ _ (h.cell j hj))).trans (h.cell j hj)⟩
theorem BS.take{w:Wo}{xa:Option Addr}{xb xo:Nat}{l:List UInt8}(h:BS w xa xb xo l)(n:Nat):BS w xa xb xo (l.take n):=
 ⟨fun h0=>h.ad (by rw[ym]at h0;omega),fun j hj=>by
  rw[ym]at hj;rw[h.cell j (by omega)];simp[List.getD,show j<n from by omega]⟩
def zR(w:Wo)(B rb:Nat):Prop:=∃ (a:Option Addr) (c p:Nat) (l:List UInt8) (bb bo:Nat),w.heap[rb]?=some (.cells #[.slice a l.length c,.int .i64 p] 115 (0,0))/\B<=rb/\p<=l.length+300/\l.length<=1200/\BS w a bb bo l/\(0<l.length->bb<B)
theorem zR.lt{w:Wo}{B rb:Nat}(h:zR w B rb):rb<w.heap.size:=by
 obtain⟨a,c,p,l,d,f,b,_⟩:=h;exact (yC.1 b).1
theorem zR.grown{w w':Wo}{B rb:Nat}{r:Option Nat}(h:zR w B rb)(hg:w.grownBy w' r)(hne:some rb≠r)(hB:∀ k,r=some k->B<=k):zR w' B rb:=by
 have b:=h.lt;obtain⟨a,c,p,l,d,g,o,i,j,m,n,f⟩:=h;exact⟨a,c,p,l,d,g,(hg.block rb b hne).trans o,i,j,m,n.grown hg (fun h0 e=>by have:=hB d e.symm;have:=f h0;omega),f⟩
theorem ZD{w w1 w2:Wo}{r:Option Nat}(h:w.grownBy w1 r)(k:w1.grownBy w2 r):w.grownBy w2 r:=
 ⟨k.os.trans h.os,k.tape.trans h.tape,k.output.trans h.output,yQ h.size k.size,fun j hj hne=>(k.block j (yF hj h.size) hne).trans (h.block j hj hne)⟩
theorem XF{w w1 w2:Wo}{r:Option Nat}{s:Option Nat}(h:w.grownBy w1 r)(k:w1.grownBy w2 s)(hs:∀ j,s=some j->w.heap.size<=j):w.grownBy w2 r:=
 ⟨k.os.trans h.os,k.tape.trans h.tape,k.output.trans h.output,yQ h.size k.size,fun j hj hne=>(k.block j (yF hj h.size) (fun e=>by have:=hs j e.symm;omega)).trans (h.block j hj hne)⟩
theorem qI{w w1:Wo}{r:Option Nat}(h:Bw w w1):w.grownBy w1 r:=⟨h.os,h.tape,h.output,h.size,fun k hk _=>h.block k hk⟩
theorem AB(w:Wo)(rb:Nat)(x y z:Value)(T:TypeId)(h:w.heap[rb]?=some (.cells #[x,y] T (0,0))):(w.setCell ⟨rb,1,none⟩ z).heap[rb]?=some (.cells #[x,z] T (0,0)):=by
 have:=heap_setCell_same w rb 1 #[x,y] T z h;simpa using this
theorem O9(w:Wo)(n rb i:Nat)(z:Value):w.grownBy ((w.drewN n).setCell ⟨rb,i,none⟩ z) (some rb):=
 ⟨rfl,rfl,rfl,by simp[World.setCell],fun k _ hne=>Below.heap_setCell (w.drewN n) ⟨rb,i,none⟩ z k (fun e=>hne (by rw[e]))⟩
theorem Gj(w:Wo)(n:Nat)(r:Option Nat):w.grownBy (w.drewN n) r:=⟨rfl,rfl,rfl,ye _,fun _ _ _=>rfl⟩
theorem Jq(B rb:Nat)(w:Wo)(h:zR w B rb):
  Calls Tryz.prog 53 #[.pointer (some ⟨rb,0,none⟩)] w fun e w'=>∃ x:Nat,x<=255/\e= .returned (.int .i64 x)/\zR w' B rb/\w.grownBy w' (some rb):=by
 obtain⟨a,c,p,l,m,n,g,o,r,q,f,d⟩:=h;have c0:w.cell? ⟨rb,0,none⟩=some (.slice a l.length c):=by rw[yG g];rfl
 have c1:w.cell? ⟨rb,1,none⟩=some (.int .i64 p):=by rw[yG g];rfl
 have u:w.frozen? ⟨rb,1,none⟩=false:=yJ g 1;have k:=ze g;have b:=ze f;clear g f;by_cases j:p<l.length
 ·have s:=(uh b).cell p j;obtain rfl:=(uh b).ad (by omega);have hx:(l.getD p 0).toNat<=255:=by have:=UInt8.toNat_lt (l.getD p 0);omega
  generalize (l.getD p 0).toNat=x at *;have i:(p:Int)<(l.length:Int):=by omega
  go_in;go_wp2;go_quiet (fail);go_wp2;go_quiet (fail);go_wp2;go_ret;refine⟨x,hx,rfl,⟨_,c,p+1,l,m,n,?_,o,by omega,q,(uh b).grown (O9 w _ rb 1 _) (fun h0 e=>by have:=d h0;injection e with e;omega),d⟩,O9 w _ rb 1 _⟩;exact AB _ rb _ _ _ _ (uh k)
 ·have i:¬ (p:Int)<(l.length:Int):=by omega
  go_in;go_wp2;go_quiet (fail);go_wp2;go_ret;exact⟨0,by omega,rfl,⟨a,c,p,l,m,n,uh k,o,r,q,(uh b).grown (Gj w _ none) (fun _ e=>by cases e),d⟩,Gj w _ _⟩
theorem Di(k:Nat)(w:Wo)(hk:k<=255):
  Calls Tryz.prog 131 #[.int .i64 k] w fun e w'=>∃ t:List UInt8,t.length<=3/\e= .returned (.string (zH t))/\w=w':=by
 by_cases a:k % 12<4
 ·rcases (show k % 12=0∨k % 12=1∨k % 12=2∨k % 12=3 from by omega)with h | h | h | h
  ·have e:(k:Int) % 12=0:=by omega
   clear a h hk;go_in;go_wp2;go_ret;exact⟨[97],by decide,rfl,rfl⟩
  ·have e:(k:Int) % 12=1:=by omega
   clear a h hk;go_in;go_wp2;go_ret;exact⟨[98],by decide,rfl,rfl⟩
  ·have e:(k:Int) % 12=2:=by omega
   clear a h hk;go_in;go_wp2;go_ret;exact⟨[99],by decide,rfl,rfl⟩
  ·have e:(k:Int) % 12=3:=by omega
   clear a h hk;go_in;go_wp2;go_ret;exact⟨[100],by decide,rfl,rfl⟩
 ·have b:(4:Int)<=(k:Int) % 12:=by omega
  go_in;go_wp2
  all_goals go_ret
  all_goals first
   | exact⟨[48],by decide,rfl,rfl⟩
   | exact⟨[49,50],by decide,rfl,rfl⟩
   | exact⟨[97,47,98],by decide,rfl,rfl⟩
   | exact⟨[126,116],by decide,rfl,rfl⟩
   | exact⟨[195,169],by decide,rfl,rfl⟩
   | exact⟨[],by decide,rfl,rfl⟩
   | exact⟨[45],by decide,rfl,rfl⟩
   | exact⟨[120,39,92],by decide,rfl,rfl⟩
def Small(ts:List (List UInt8)):Prop:=∀ t∈ts,t.length<=3
theorem XG{w w1:Wo}{B e size n:Nat}{v:Value}{xs:List Value}{r:Option Nat}(h:w.ownsRow B e size v n xs)(hg:w.grownBy w1 r)(hr:∀ k,r=some k->k<B):w1.ownsRow B e size v n xs:=by
 refine h.kept hg ?_
 cases hv:v.ownBlock with
 | none=>exact .inl rfl
 | some k=>refine .inr (fun e=>?_);have:=(h.lt k hv).1;have:=hr k e.symm;omega
theorem AD(B rb:Nat)(w:Wo)(h:zR w B rb):
  Calls Tryz.prog 207 #[.pointer (some ⟨rb,0,none⟩)] w fun e w'=>∃ v ts,e= .returned v/\OT w' w.heap.size v ts/\ts.length<=4/\Small ts/\zR w' B rb/\w.grownBy w' (some rb):=by
 obtain⟨i0,W,O,P,Q⟩:=info_parts Vi;have Y:=h.lt;have R:Hid (∀ w,zR w B rb->Calls Tryz.prog 53 #[.pointer (some ⟨rb,0,none⟩)] w fun e w'=>∃ x:Nat,x<=255/\e= .returned (.int .i64 x)/\zR w' B rb/\w.grownBy w' (some rb)):=fun w h=>Jq B rb w h;have HR:=ze h;clear h;go_in;go_wp2_with fail;refine (uh R _ (uh HR)).mono ?_;rintro e p ⟨x,hx,rfl,T,E⟩;have Z:=E.size;have S:Hid ((p.alloc (.cells #[] 9)).ownsRow w.heap.size 9 1 (.slice (some ⟨p.heap.size,0,none⟩) 0 0) 0 []):=World.ownsRow_lit p #[] 0 E.size (by unfold maxLen;omega) rfl;have u:Hid (zR (p.alloc (.cells #[] 9)) B rb):=T.grown (World.grownBy_alloc p _ none) (by simp) (fun k e=>by cases e);have s:Hid (w.grownBy (p.alloc (.cells #[] 9)) (some rb)):=ZD E (World.grownBy_alloc p _ _);clear T E HR;go_wp2;go_loopw [4,5] (fun v i wr=>∃ (j:Nat) (ts:List (List UInt8)),i= .int .i64 j/\j<=x % 5/\ts.length=j/\OT wr w.heap.size v ts/\Small ts/\zR wr B rb/\w.grownBy wr (some rb)) (fun _ i _=>x % 5 - (intOf i).toNat)
 case atStart=>exact⟨0,[],rfl,yu _,rfl,uh S,(fun t N=>by cases N),uh u,uh s⟩
 case round=>
  obtain⟨j,ts,rfl,hj,b,f,C,A,M⟩:=hrel;have o:=ze C;have n:=ze A;have G:=ze M;have ad:=M.size;have I:=ze b;clear S u s C A M b;by_cases X:j<x % 5
  ·have z:(j:Int)<(x:Int) % 5:=by omega
   go_wp2_with fail;refine (uh R _ (uh n)).mono ?_;rintro e F ⟨y,hy,rfl,U,L⟩;have d:=XG f L (fun k e=>by injection e with e;omega);have m:=ze U;have l:=ze (ZD (uh G) L);have ab:=(uh l).size;clear f U L n G;go_wp2_with fail;refine (Di y F hy).mono ?_;rintro e w' ⟨t,N,rfl,rfl⟩;have b:=uh I;have aa:ts.length<=4:=by omega
   have J:=ze b;clear b I;go_wp2_with (at_builtin;refine wpList_append_own _ rfl (.tmp 15) (.tmp 19) 30 rfl w.heap.size 9 i0 (.string ByteArray.empty) 1 16 Tryz.underlying30 W O P Q rfl (by decide) _ _ _ rfl (d.alloc _) ⟨F.heap.size,0,none⟩ 1 1 [.string (zH t)] rfl rfl (Qi _ _ _) (Vj _) (by unfold maxLen;omega) (by omega) (by simp;omega) ?_);intro v3 V g a _;have H:Hid (w.grownBy V (some rb)):=XF (ZD (uh l) (World.grownBy_alloc F _ _)) a (fun k hk=>(d.lt k hk).1);have K:Hid (zR V B rb):=((uh m).grown (World.grownBy_alloc F _ none) (by simp) (fun k e=>by cases e)).grown a (fun e=>by have:=(d.lt rb e.symm).1;omega) (fun k e=>by have:=(d.lt k e).1;have:=(uh m);obtain⟨_,_,_,_,_,_,_,h9,_⟩:=this;omega);have D:=OT.step (t:=t) g;have ZL:Hid (Small (ts++[t])):=fun q r=>by
    rcases List.mem_append.1 r with r | r
    ·exact uh o q r
    ·simp at r;subst r;exact N
   clear g a d m l o;go_wp2;go_roundw
   case rel=>exact⟨j+1,ts++[t],by go_num,by omega,by have:=uh J;simp;omega,D,uh ZL,uh K,uh H⟩
   case measure=>simp[intOf];omega
  ·have z:¬ (j:Int)<(x:Int) % 5:=by omega
   go_wp2;go_ret;exact⟨_,rfl,ts,f,by have:=uh I;omega,uh o,uh n,uh G⟩
theorem Dj(xa:Option Addr)(xb xo xc:Nat)(l:List UInt8)(w:Wo)(h:BS w xa xb xo l)(hl:l.length<=1048576)(hc:l.length<=xc):
  Calls Tryz.prog 25 #[.slice xa l.length xc] w fun e w'=>e= .returned (.pointer (some ⟨w.heap.size,0,none⟩))/\zR w' w.heap.size w.heap.size/\Bw w w'/\w'.heap.size=w.heap.size+1:=by
 have b:0<l.length->xb<w.heap.size:=fun h0=>yK _ _ (h.cell 0 h0);have f:=ze h;have a:=ze b;clear h b;by_cases g:1200<l.length
 ·have d:(1200:Int)<(l.length:Int):=by omega
  go_in;go_wp2;go_ret;refine⟨rfl,⟨_,xc,0,l.take 1200,xb,xo,?_,ye _,yu _,by rw[ym];omega,((uh f).take 1200).grown (World.grownBy_alloc w _ none) (fun _ e=>by cases e),fun _=>uh a (by omega)⟩,(yI _ _).alloc (ye _) _,by simp⟩;rw[yH];rw[ym,Nat.min_eq_left (by omega)];rfl
 ·have d:¬ (1200:Int)<(l.length:Int):=by omega
  go_in;go_wp2;go_ret;refine⟨rfl,⟨_,xc,0,l,xb,xo,?_,ye _,yu _,by omega,(uh f).grown (World.grownBy_alloc w _ none) (fun _ e=>by cases e),uh a⟩,(yI _ _).alloc (ye _) _,by simp⟩;rw[yH];rfl
theorem OT.cells{w:Wo}{B:Nat}{v:Value}{ts:List (List UInt8)}(h:OT w B v ts):(v= .slice none 0 0/\ts=[])∨∃ g cap,v= .slice (some ⟨g,0,none⟩) ts.length cap/\(∀ j u,(ts.map QJ)[j]?=some u->w.cell? ((⟨g,0,none⟩:Addr).add j)=some u):=by
 rcases h.2 with ⟨a,d⟩ |⟨g,cap,b,a,_⟩
 ·exact .inl ⟨a,yO d⟩
 ·refine .inr ⟨g,cap,a,fun j u hj=>?_⟩;subst a;exact World.ownsRow.cells h rfl j u hj
end Go.Proofs.YtpaecnbdoljafaaGreatDoor
namespace Go.Proofs.YtpaecnbdoljafaaGreatDoor
open Go.RowKit Go.Lib
def bt(s:Bs)(i:Nat):Nat:=(s.data.toList.getD i 0).toNat
theorem qi(s:Bs)(i:Nat):bt s i<256:=UInt8.toNat_lt _
theorem Zq(s:Bs)(i:Nat)(h:i<s.size):bt s i=s[i].toNat:=by
 unfold bt;have:s.data.toList[i]?=some s[i]:=by rw[yy (by rw[Zg];exact h)];rfl
 rw[List.getD_eq_getElem?_getD,this];rfl
theorem YI(s:Bs)(i:Nat):Utf8.decode s i=decodeN (s.size - i) (bt s i) (bt s (i+1)) (bt s (i+2)) (bt s (i+3)):=by
 rw[decode_N,Zg];rfl
def Jj(n b0 b1 b2 b3:Nat):Nat:=if b0<128 then 1 else if (decodeN n b0 b1 b2 b3).2=1 then 0 else (decodeN n b0 b1 b2 b3).2
def rl(s:Bs)(i:Nat):Nat:=Jj (s.size - i) (bt s i) (bt s (i+1)) (bt s (i+2)) (bt s (i+3))
theorem XH{n b0 b1 b2 b3:Nat}(h:b0<128):Jj n b0 b1 b2 b3=1:=by simp[Jj,h]
theorem Na{n b0 b1 b2 b3:Nat}(h:128<=b0)(h':b0<192):Jj n b0 b1 b2 b3=0:=by
 unfold Jj decodeN;rw[yf (by omega)]
 repeat' split
 all_goals first | rfl |(exfalso;omega) |(simp at *;done) |(exfalso;simp at *;omega)
theorem Uf{n b0 b1 b2 b3:Nat}(h:192<=b0)(h':b0<224)(hb1:b1<256):
  Jj n b0 b1 b2 b3=if 2<=n/\128<=b1/\b1<192/\128<=(b0 - 192)*64+(b1 - 128)then 2 else 0:=by
 unfold Jj decodeN;rw[yf (by omega)]
 repeat' split
 all_goals first | rfl | omega |(exfalso;omega) |(exfalso;simp at *;omega)
theorem Ug{n b0 b1 b2 b3:Nat}(h:224<=b0)(h':b0<240)(hb1:b1<256)(hb2:b2<256):
  Jj n b0 b1 b2 b3=if 3<=n/\128<=b1/\b1<192/\128<=b2/\b2<192/\2048<=(b0 - 224)*4096+(b1 - 128)*64+(b2 - 128)/\((b0 - 224)*4096+(b1 - 128)*64+(b2 - 128)<55296∨57344<=(b0 - 224)*4096+(b1 - 128)*64+(b2 - 128))then 3 else 0:=by
 unfold Jj decodeN;rw[yf (by omega)]
 repeat' split
 all_goals first | rfl | omega |(exfalso;omega) |(exfalso;simp at *;omega)
theorem Uh{n b0 b1 b2 b3:Nat}(h:240<=b0)(h':b0<256)(hb1:b1<256)(hb2:b2<256)(hb3:b3<256):
  Jj n b0 b1 b2 b3=if 4<=n/\128<=b1/\b1<192/\128<=b2/\b2<192/\128<=b3/\b3<192/\65536<=(b0 - 240)*262144+(b1 - 128)*4096+(b2 - 128)*64+(b3 - 128)/\(b0 - 240)*262144+(b1 - 128)*4096+(b2 - 128)*64+(b3 - 128)<=1114111 then 4 else 0:=by
 unfold Jj decodeN;rw[yf (by omega)]
 repeat' split
 all_goals first | rfl | omega |(exfalso;omega) |(exfalso;simp at *;omega)
end Go.Proofs.YtpaecnbdoljafaaGreatDoor
namespace Go.Proofs.YtpaecnbdoljafaaGreatDoor
open Go.RowKit
def zP(b:Nat):Bool:=decide (48<=b) && decide (b<=57)
theorem Qx{b:Nat}:zP b=true↔48<=b/\b<=57:=by simp[zP]
def qE(l:List UInt8):Nat:=l.foldl (fun v c=>v*10+(c.toNat - 48)) 0
theorem Ui(l:List UInt8)(c:UInt8):qE (l++[c])=qE l*10+(c.toNat - 48):=by unfold qE;rw[List.foldl_append];rfl
theorem Dk(s:Bs)(k:Nat)(h:k<s.size):s.data.toList[k]'(by rw[Zg];exact h)=s[k]:=rfl
theorem Dl:∀ (n:Nat) (t:List UInt8),t.length=n->qE t<10 ^ n∨¬ (∀ c∈t,zP c.toNat=true):=by
 intro n;induction n with
 | zero=>intro t h;rw[yO h];exact .inl (by simp[qE])
 | succ n ih=>
  intro t h;rcases List.eq_nil_or_concat t with e |⟨a,c,e⟩
  ·subst e;simp at h
  ·rw[List.concat_eq_append]at e;subst e;by_cases b:∀ x∈a++[c],zP x.toNat=true
   ·left;have f:=Qx.1 (b c (by simp));rcases ih a (by simpa using h)with d | d
    ·rw[Ui,Nat.pow_succ];omega
    ·exact absurd (fun x hx=>b x (by simp[hx])) d
   ·exact .inr b
def qj(r:Nat):List Nat:=
 if r<128 then [r]else if r<2048 then [192+r / 64,128+r % 64]
 else if r<65536 then [224+r / 4096,128+r / 64 % 64,128+r % 64]
 else [240+r / 262144,128+r / 4096 % 64,128+r / 64 % 64,128+r % 64]
def ZI(r:Nat):List UInt8:=(qj r).map UInt8.ofNat
def zh(l:List UInt8):Bs:=⟨l.toArray⟩
theorem Za(l:List UInt8):(zh l).data.toList=l:=by simp[zh]
theorem zN(l:List UInt8):(zh l).size=l.length:=by rw[← Zg,Za]
theorem Wk(w:Wo)(l:List UInt8)(cs:Array Value)(n:Nat)(hn:n=l.length)(hcs:cs.toList=Lib.byteCells l):
  (convert 22 9 (.slice (some ⟨w.heap.size,0,none⟩) n n)).run Tryz.prog (w.alloc (.cells cs 5))= .ok (.string (zh l)) (w.alloc (.cells cs 5)):=by
 subst hn;exact run_convert_bytes_back (P:=Tryz.prog) _ 22 9 5 ⟨w.heap.size,0,none⟩ l.length l Tryz.underlying22 Tryz.underlying5 Tryz.underlying9 (fun j hj=>by
  rw[Go.WideShapes.add_plain,cell_of_row _ w.heap.size (0+j) cs 5 (0,0) (yH w _),Nat.zero_add];have h:=XB hj;rw[← hcs]at h;simpa using h)
theorem Dm(r:Nat)(w:Wo)(hr:r<=1114111):
  Calls Tryz.prog 161 #[.int .i64 r] w fun e w'=>e= .returned (.string (zh (ZI r)))/\Bw w w':=by
 by_cases a:r<128
 ·have d:=Wk w (ZI r) #[.int .u8 (r:Int)] 1 (by simp[ZI,qj,a]) (by simp[ZI,qj,a,Lib.byteCells];omega);have b:(r:Int)<128:=by omega
  generalize ZI r=u at *;go_in;go_wp2;go_ret;exact⟨rfl,(yI _ _).alloc (ye _) _⟩
 ·by_cases f:r<2048
  ·have d:=Wk w (ZI r) #[.int .u8 (192+(r:Int) / 64),.int .u8 (128+(r:Int) % 64)] 2 (by simp[ZI,qj,a,f]) (by simp[ZI,qj,a,f,Lib.byteCells];omega);have b:¬ (r:Int)<128:=by omega
   have g:(r:Int)<2048:=by omega
   generalize ZI r=u at *;go_in;go_wp2;go_ret;exact⟨rfl,(yI _ _).alloc (ye _) _⟩
  ·by_cases h:r<65536
   ·have d:=Wk w (ZI r) #[.int .u8 (224+(r:Int) / 4096),.int .u8 (128+(r:Int) / 64 % 64),.int .u8 (128+(r:Int) % 64)] 3 (by simp[ZI,qj,a,f,h]) (by simp[ZI,qj,a,f,h,Lib.byteCells];omega);have b:¬ (r:Int)<128:=by omega
    have g:¬ (r:Int)<2048:=by omega
    have i:(r:Int)<65536:=by omega
    generalize ZI r=u at *;go_in;go_wp2;go_ret;exact⟨rfl,(yI _ _).alloc (ye _) _⟩
   ·have d:=Wk w (ZI r) #[.int .u8 (240+(r:Int) / 262144),.int .u8 (128+(r:Int) / 4096 % 64),.int .u8 (128+(r:Int) / 64 % 64),.int .u8 (128+(r:Int) % 64)] 4 (by simp[ZI,qj,a,f,h]) (by simp[ZI,qj,a,f,h,Lib.byteCells];omega);have b:¬ (r:Int)<128:=by omega
    have g:¬ (r:Int)<2048:=by omega
    have i:¬ (r:Int)<65536:=by omega
    generalize ZI r=u at *;go_in;go_wp2;go_ret;exact⟨rfl,(yI _ _).alloc (ye _) _⟩
def Jx:List UInt8:=[48,49,50,51,52,53,54,55,56,57,97,98,99,100,101,102]
def qB(c:UInt8):List UInt8:=
 if c.toNat=34∨c.toNat=92 then [92,c]else if c.toNat=8 then [92,98]else if c.toNat=9 then [92,116]else if c.toNat=10 then [92,110]
 else if c.toNat=12 then [92,102]else if c.toNat=13 then [92,114]else if c.toNat<32 then [92,117,48,48,Jx.getD (c.toNat / 16) 0,Jx.getD (c.toNat % 16) 0]else [c]
theorem Nb(c:UInt8):(qB c).length<=6:=by
 unfold qB
 repeat' split
 all_goals simp
def qs(l:List UInt8):List UInt8:=l.flatMap qB
def quoted(l:List UInt8):List UInt8:=34 ::(qs l++[34])
theorem AE(l:List UInt8)(c:UInt8):qs (l++[c])=qs l++qB c:=by simp[qs]
theorem Nc(l m:List UInt8):qs (l++m)=qs l++qs m:=by simp[qs]
theorem Dn(l:List UInt8):(qs l).length<=6*l.length:=by
 induction l with
 | nil=>simp[qs]
 | cons c l ih=>have:=Nb c;simp only[qs,List.flatMap_cons,yh,yp]at *;omega
theorem Uj{c:UInt8}(h:(c.toNat:Int)=34∨(c.toNat:Int)=92):qB c=[92,c]:=by unfold qB;rw[yg (by omega)]
theorem Nd{c:UInt8}(h:(c.toNat:Int)=8):qB c=[92,98]:=by unfold qB;rw[yf (by omega),yg (by omega)]
theorem Nf{c:UInt8}(h:(c.toNat:Int)=9):qB c=[92,116]:=by unfold qB;rw[yf (by omega),yf (by omega),yg (by omega)]
theorem Ng{c:UInt8}(h:(c.toNat:Int)=10):qB c=[92,110]:=by unfold qB;rw[yf (by omega),yf (by omega),yf (by omega),yg (by omega)]
theorem Nh{c:UInt8}(h:(c.toNat:Int)=12):qB c=[92,102]:=by unfold qB;rw[yf (by omega),yf (by omega),yf (by omega),yf (by omega),yg (by omega)]
theorem Ni{c:UInt8}(h:(c.toNat:Int)=13):qB c=[92,114]:=by unfold qB;rw[yf (by omega),yf (by omega),yf (by omega),yf (by omega),yf (by omega),yg (by omega)]
def Uk(n:Nat):Prop:=n<32/\¬ n=8/\¬ n=9/\¬ n=10/\¬ n=12/\¬ n=13
theorem Nj{c:UInt8}(h:Uk c.toNat):qB c=[92,117,48,48,Jx.getD (c.toNat / 16) 0,Jx.getD (c.toNat % 16) 0]:=by
 obtain⟨a,b,d,f,g,i⟩:=h;unfold qB;rw[yf (by omega),yf b,yf d,yf f,yf g,yf i,yg a]
theorem XI{c:UInt8}(h:¬ c.toNat=34)(h':¬ c.toNat=92)(h'':32<=c.toNat):qB c=[c]:=by
 unfold qB;rw[yf (by omega),yf (by omega),yf (by omega),yf (by omega),yf (by omega),yf (by omega),yf (by omega)]
theorem XJ(k:Nat)(h:k<16):(⟨Jx.toArray⟩:Bs)[k]'(by show k<16;exact h)=Jx.getD k 0:=by
 rcases (show k=0∨k=1∨k=2∨k=3∨k=4∨k=5∨k=6∨k=7∨k=8∨k=9∨k=10∨k=11∨k=12∨k=13∨k=14∨k=15 from by omega)with rfl | rfl | rfl | rfl | rfl | rfl | rfl | rfl | rfl | rfl | rfl | rfl | rfl | rfl | rfl | rfl<;>rfl
theorem Nk:∀ l:List UInt8,(∀ c∈l,128<=c.toNat)->qs l=l
 | [],_=>rfl
 | c :: l,h=>by
  have h1:=h c yq;have a:=Nk l (fun d hd=>h d (yw _ hd));show qB c++qs l=c :: l
  rw[XI (by omega) (by omega) (by omega),a];rfl
def Jy(s:Bs)(k:Nat)(c:Int):Bool:=match s.data.toList[k]? with
 | some x=>(x.toNat:Int) ==c
 | none=>false
theorem Nl(s:Bs)(k:Nat)(h:k<s.size):s.data.toList[k]?=some s[k]:=by
 rw[yy (by rw[Zg];exact h)];rfl
theorem Vk{s:Bs}{k:Nat}{c:Int}(h:k<s.size):Jy s k c=((s[k].toNat:Int) ==c):=by
 unfold Jy;rw[Nl s k h]
theorem Ul{s:Bs}{k:Nat}{c:Int}(h:¬ k<s.size):Jy s k c=false:=by
 unfold Jy;rw[List.getElem?_eq_none (by rw[Zg];omega)]
theorem Do{a b:Bool}(h:a=b):Ending.returned (.bool a)= .returned (.bool b):=by rw[h]
theorem Gk(s:Bs)(i:Int)(k:Nat)(hik:i=(k:Int))(c:Int)(w:Wo):
  Calls Tryz.prog 66 #[.string s,.int .i64 i,.int .u8 c] w fun e w'=>e= .returned (.bool (Jy s k c))/\w=w':=by
 subst hik;by_cases h:k<s.size
 ·have a:=ze (Vk (c:=c) h);have b:(k:Int)<(s.size:Int):=by omega
  go_in;go_wp2;go_ret;exact⟨Do (by rw[uh a]),rfl⟩
 ·have a:=ze (Ul (c:=c) h);have b:decide ((k:Int)<(s.size:Int))=false:=by simp;omega
  go_in;go_wp2;go_ret;exact⟨Do (by rw[uh a]),rfl⟩
theorem Yi(l:List UInt8):∀ u∈Lib.byteCells l,u.oneCell'=true:=by
 intro u a;simp only[Lib.byteCells,yP]at a;obtain⟨b,_,rfl⟩:=a;rfl
theorem Wl(w:Wo)(l:List UInt8):∃ cap W,(convert 9 22 (.string (zh l))).run Tryz.prog w= .ok (.slice (some ⟨w.heap.size,0,none⟩) l.length cap) W /\
  (∀ j u,(Lib.byteCells l)[j]?=some u->W.cell? ((⟨w.heap.size,0,none⟩:Addr).add j)=some u)/\Bw w W/\(∀ (B e:Nat) v n xs,w.ownsRow B e 1 v n xs->W.ownsRow B e 1 v n xs)/\w.heap.size<=W.heap.size:=by
 have h:=run_bytes_of_string (P:=Tryz.prog) w 9 22 5 (zh l) Tryz.underlying9 Tryz.underlying22 Tryz.underlying5;have a:(zh l).size=l.length:=zN l;refine⟨_,_,(by rw[h,a]),?_,?_,?_,?_⟩
 ·intro j u b;have d:j<l.length:=by
   have:=(List.getElem?_eq_some_iff.1 b).1
   rwa [yL]at this
  have k:(zh l).data.size=l.length:=by simp[zh]
  have f:=bytesRow_at (zh l) (grownCap w (zh l).size 0 5) j (by omega);rw[Go.WideShapes.add_plain,show (0:Nat)+j=j from by omega];have g:(w.drew.alloc (.cells (bytesRow (zh l) (grownCap w (zh l).size 0 5)) 5 ((bytesRow (zh l) (grownCap w (zh l).size 0 5)).size,(bytesRow (zh l) (grownCap w (zh l).size 0 5)).size+1))).heap[w.heap.size]?=some (.cells (bytesRow (zh l) (grownCap w (zh l).size 0 5)) 5 ((bytesRow (zh l) (grownCap w (zh l).size 0 5)).size,(bytesRow (zh l) (grownCap w (zh l).size 0 5)).size+1)):=yH w.drew _;rw[a]at g f;rw[cell_of_row _ w.heap.size j _ 5 _ g,f];rw[XB d]at b;rw[← b];simp[zh]
 ·exact ((yI _ _).drew).alloc (ye _) _
 ·intro B e v n xs i;exact World.ownsRow.alloc (w:=w.drew) i _
 ·show w.heap.size<=(w.heap.push _).size
  simp
theorem Dp(s:Bs)(w:Wo)(hs:s.size<=1048576):
  Calls Tryz.prog 89 #[.string s] w fun e w'=>e= .returned (XC (zQ s.data.toList))/\Bw w w':=by
 obtain⟨L,J,z,A,B⟩:=info_parts Gf;go_in;go_wp2;go_loopw [4,5] (fun v i wr=>∃ (j:Nat) (h:List UInt8),j<=s.size/\i= .int .i64 j/\wr.ownsRow w.heap.size 5 1 v (Lib.byteCells h).length (Lib.byteCells h)/\Bw w wr/\(Lib.byteCells h).length<=j/\Jp s.data.toList j h) (fun _ i _=>s.size - (intOf i).toNat)
 case atStart=>exact⟨0,[],yu _,rfl,World.ownsRow_lit w #[] 0 (ye _) (by unfold maxLen;omega) rfl,(yI _ _).alloc (ye _) _,ye _,Jp.start _⟩
 case round=>
  obtain⟨j,h,R,rfl,b,H,y,F⟩:=hrel;have q:=H.size;have C:=ze F;clear F;by_cases K:j<s.size
  ·have r:=Qw s j K;have x:=ze H;clear H;by_cases d:(s[j].toNat:Int)=126
   ·have Q:((s[j].toNat:Int) !=126)=false:=by simpa using d
    by_cases u:j+1<s.size
    ·have o:=Qw s (j+1) u;by_cases l:(s[j+1].toNat:Int)=48
     ·have I:Jy s (j+1) 48=true:=by rw[Vk u];simpa using l
      have E:Hid (zQ (s.data.toList.drop j)=(zQ (s.data.toList.drop (j+2))).map ([126]++·)):=by show _=_;rw[r,o,Uc _ d l]
      clear l;clear d r o;go_wp2_with (first |(go_at_call 66;refine (Gk s _ (j+1) (by omega) _ _).mono ?_;rintro e w' ⟨rfl,rfl⟩) |(at_builtin;refine wpList_append_own _ rfl (.tmp 27) (.tmp 28) 22 rfl w.heap.size 5 L (.int .u8 0) 1 1 Tryz.underlying22 J z A B rfl (by decide) _ _ _ rfl (b.alloc _) ⟨wr.heap.size,0,none⟩ 1 1 [.int .u8 126] rfl rfl (Qi _ _ _) (YH _ _) (by unfold maxLen;omega) (by omega) (by simp;omega) ?_));intro O G f a _;have p:Bw w G:=((uh x).alloc q _).grown a (by simp;omega) (fun k hk=>(b.lt k hk).1);have g:=ZY (m:=[126]) f (by simp[Lib.byteCells]) rfl;clear f a b x;go_wp2;go_roundw
      case rel=>exact⟨j+2,h++[126],by omega,by go_num,g,p,by simp[Lib.byteCells]at y ⊢;omega,(uh C).step (uh E)⟩
      case measure=>simp[intOf];omega
     ·by_cases n:(s[j+1].toNat:Int)=49
      ·have I:Jy s (j+1) 48=false:=by rw[Vk u];simpa using l
       have M:Jy s (j+1) 49=true:=by rw[Vk u];simpa using n
       have E:Hid (zQ (s.data.toList.drop j)=(zQ (s.data.toList.drop (j+2))).map ([47]++·)):=by show _=_;rw[r,o,Ud _ d n]
       clear l n;clear d r o;go_wp2_with (first |(go_at_call 66;refine (Gk s _ (j+1) (by omega) _ _).mono ?_;rintro e w' ⟨rfl,rfl⟩) |(at_builtin;refine wpList_append_own _ rfl (.tmp 36) (.tmp 37) 22 rfl w.heap.size 5 L (.int .u8 0) 1 1 Tryz.underlying22 J z A B rfl (by decide) _ _ _ rfl (b.alloc _) ⟨wr.heap.size,0,none⟩ 1 1 [.int .u8 47] rfl rfl (Qi _ _ _) (YH _ _) (by unfold maxLen;omega) (by omega) (by simp;omega) ?_));intro O G f a _;have p:Bw w G:=((uh x).alloc q _).grown a (by simp;omega) (fun k hk=>(b.lt k hk).1);have g:=ZY (m:=[47]) f (by simp[Lib.byteCells]) rfl;clear f a b x;go_wp2;go_roundw
       case rel=>exact⟨j+2,h++[47],by omega,by go_num,g,p,by simp[Lib.byteCells]at y ⊢;omega,(uh C).step (uh E)⟩
       case measure=>simp[intOf];omega
      ·have I:Jy s (j+1) 48=false:=by rw[Vk u];simpa using l
       have M:Jy s (j+1) 49=false:=by rw[Vk u];simpa using n
       have D:=ze ((uh C).bad (by rw[r,o,U9 _ d l n]));clear d l n r o b;go_wp2_with (go_at_call 66;refine (Gk s _ (j+1) (by omega) _ _).mono ?_;rintro e w' ⟨rfl,rfl⟩);go_ret2;exact⟨by rw[uh D];rfl,uh x⟩
    ·have I:Jy s (j+1) 48=false:=Ul u;have M:Jy s (j+1) 49=false:=Ul u;have D:=ze ((uh C).bad (by rw[r,Ue s (j+1) u,U8 d]));clear d r b;go_wp2_with (go_at_call 66;refine (Gk s _ (j+1) (by omega) _ _).mono ?_;rintro e w' ⟨rfl,rfl⟩);go_ret2;exact⟨by rw[uh D];rfl,uh x⟩
   ·have Q:((s[j].toNat:Int) !=126)=true:=by simpa using d
    have E:Hid (zQ (s.data.toList.drop j)=(zQ (s.data.toList.drop (j+1))).map ([s[j]]++·)):=by show _=_;rw[r,Ub _ d]
    clear d r;go_wp2_with (at_builtin;refine wpList_append_own _ rfl (.tmp 17) (.tmp 21) 22 rfl w.heap.size 5 L (.int .u8 0) 1 1 Tryz.underlying22 J z A B rfl (by decide) _ _ _ rfl (b.alloc _) ⟨wr.heap.size,0,none⟩ 1 1 [.int .u8 s[j].toNat] rfl rfl (Qi _ _ _) (YH _ _) (by unfold maxLen;omega) (by omega) (by simp;omega) ?_);intro O G f a _;have p:Bw w G:=((uh x).alloc q _).grown a (by simp;omega) (fun k hk=>(b.lt k hk).1);have g:=ZY (m:=[s[j]]) f (by simp[Lib.byteCells]) rfl;clear f a b x;go_wp2;go_roundw
    case rel=>exact⟨j+1,h++[s[j]],by omega,by go_num,g,p,by simp[Lib.byteCells]at y ⊢;omega,(uh C).step (uh E)⟩
    case measure=>simp[intOf];omega
  ·have N:=(uh C).fin (by rw[Zg];omega);have D:=ze N;have P:=Gg b;clear N b;go_wp2;go_ret2;exact⟨by rw[uh D];rfl,H⟩
theorem Gl(s:Bs)(w:Wo)(hs:s.size<=1048576):
  Calls Tryz.prog 41 #[.string s] w fun e w'=>∃ v,e= .returned (.tuple #[v,.bool (zK s.data.toList).isSome])/\OT w' w.heap.size v ((zK s.data.toList).getD [])/\Bw w w':=by
 obtain⟨i0,hi,Q,R,S⟩:=info_parts Vi;have g:=World.ownsRow_lit (base:=w.heap.size) (e:=9) (size:=1) w #[] 0 (ye _) (by unfold maxLen;omega) rfl;have r:Bw w (w.alloc (.cells #[] 9)):=(yI _ _).alloc (ye _) _;by_cases W:s.size=0
 ·have aa:s=⟨#[]⟩:=by
   have:s.data.toList=[]:=yO (by rw[Zg];exact W);obtain⟨⟨l⟩⟩:=s;simp at this;subst this;rfl
  subst aa;have O:=ze g;clear g W;go_in;go_wp2;go_ret2;exact⟨_,rfl,uh O,r⟩
 ·have hne:s.toList.isEmpty=false:=by
   rw[Lib.toList_data,List.isEmpty_eq_false_iff];intro e;exact W (by rw[← Zg,e];rfl)
  have h0':0<s.size:=by omega
  have hdl:=Zg s;by_cases A:(s[0].toNat:Int)=47
  ·have t1:((s[0].toNat:Int) !=47)=false:=by simpa using A
   have F:Hid (zK s.data.toList=Qq (s.data.toList.drop 1)):=Df (by omega) (by show s[0].toNat=47;omega);have O:=ze g;clear g A;generalize hl:s.data.toList=l at *;have T:=ze hl;clear hl;go_in;go_wp2;go_loopw [4,5,6] (fun v fr i wr=>∃ (k f:Nat) (a:List (List UInt8)),1<=k/\k<=s.size+1/\1<=f/\f<=k/\i= .int .i64 k/\fr= .int .i64 f/\a.length<=k/\OT wr w.heap.size v a/\Bw w wr/\(k<=s.size->Q1 l f k/\JR l f a)/\(k=s.size+1->Qq (l.drop 1)=some a)) (fun _ _ i _=>s.size+1 - (intOf i).toNat)
   case atStart=>exact⟨1,1,[],by omega,by omega,by omega,by omega,rfl,rfl,by simp,uh O,r,fun _=>⟨Q1.none _ _,by simp[JR]⟩,fun h=>by omega⟩
   case round=>
    obtain⟨k,f,a,hk1,hk2,Y,P,rfl,rfl,hdl2,j,I,u,hZ⟩:=hrel;have x:=I.size;have N:=ze u;have U:=ze hZ;clear u hZ O;by_cases J:k<=s.size
    ·by_cases Z:k=s.size
     ·have u:=uh N J;have D:k=l.length:=by omega
      have q:Q1 l f l.length:=by rw[← D];exact u.1
      subst Z;have t2:((s.size:Int) ==(s.size:Int))=true:=by simp
      have K:(s.extract f s.size).size<=1048576:=by rw[← Zg,XE,ym,yv,Zg];omega
      have p:=XE s f s.size;rw[uh T]at p;have C:=Dp (s.extract f s.size) wr K;rw[p]at C
      cases ho:zQ ((l.drop f).take (s.size - f))with
      | none=>
       rw[ho,O5]at C;have HC:=ze C;have z:Hid (Qq (l.drop 1)=none):=by have:=u.2.lastBad q (by rw[← D];exact ho);exact this
       clear C ho p u q D N U;go_wp2_with fail;refine (uh HC).mono ?_;rintro e M ⟨rfl,d⟩;have y:=I.trans (d.mono x);have m:=World.ownsRow_lit (base:=w.heap.size) (e:=9) (size:=1) M #[] 0 y.size (by unfold maxLen;omega) rfl;have H:=ze m;clear j d HC m;go_wp2;go_ret2;exact⟨_,by rw[uh F,uh z];rfl,by rw[uh F,uh z];exact uh H,y.alloc y.size _⟩
      | some t=>
       rw[ho,O4]at C;have HC:=ze C;have z:Hid (Qq (l.drop 1)=some (a++[t])):=by have:=u.2.last q (by rw[← D];exact ho);exact this
       clear u q D N U C ho p;go_wp2_with fail;refine (uh HC).mono ?_;rintro e M ⟨rfl,d⟩;have y:=I.trans (d.mono x);have o:=Zd j d;have L:=y.size;clear j d HC;go_wp2_with (at_builtin;(refine wpList_append_own _ rfl (.tmp 44) (.tmp 46) 30 rfl w.heap.size 9 i0 (.string ByteArray.empty) 1 16 Tryz.underlying30 hi Q R S rfl (by decide) _ _ _ rfl (o.alloc _) ⟨M.heap.size,0,none⟩ 1 1 [.string (zH t)] rfl rfl (Qi _ _ _) (Vj _) (by unfold maxLen;omega) (by omega) (by simp;omega) ?_));intro v2 w2 n b _;have V:Bw w w2:=(y.alloc L _).grown b (by simp;omega) (fun k hk=>(o.lt k hk).1);have E:=OT.step (t:=t) n;clear n b o;go_wp2;go_roundw
       case rel=>exact⟨s.size+1,s.size+1,a++[t],by omega,by omega,by omega,by omega,by go_num,by go_num,by simp;omega,E,V,fun h=>by omega,fun _=>uh z⟩
       case measure=>simp[intOf]
     ·have hlt:k<s.size:=by omega
      have t2:((k:Int) ==(s.size:Int))=false:=by simp;omega
      by_cases X:(s[k].toNat:Int)=47
      ·have t3:((s[k].toNat:Int) ==47)=true:=by simpa using X
       have u:=uh N J;have B:k<l.length:=by omega
       have G:l[k].toNat=47:=by
                        have e:l[k].toNat=s[k].toNat:=by (have e:=uh T;subst e;rfl)
                        omega
       have K:(s.extract f k).size<=1048576:=by rw[← Zg,XE,ym,yv,Zg];omega
       have p:=XE s f k;rw[uh T]at p;have C:=Dp (s.extract f k) wr K;rw[p]at C
       cases ho:zQ ((l.drop f).take (k - f))with
       | none=>
        rw[ho,O5]at C;have HC:=ze C;have z:Hid (Qq (l.drop 1)=none):=u.2.cutBad u.1 P B G ho;clear C ho p;go_wp2_with fail;refine (uh HC).mono ?_;rintro e M ⟨rfl,d⟩;have y:=I.trans (d.mono x);have m:=World.ownsRow_lit (base:=w.heap.size) (e:=9) (size:=1) M #[] 0 y.size (by unfold maxLen;omega) rfl;have H:=ze m;clear j d HC m;go_wp2;go_ret2;exact⟨_,by rw[uh F,uh z];rfl,by rw[uh F,uh z];exact uh H,y.alloc y.size _⟩
       | some t=>
        rw[ho,O4]at C;have HC:=ze C;have z:=ze (u.2.cut u.1 P B G ho);clear u B G X N U;clear C ho p;go_wp2_with fail;refine (uh HC).mono ?_;rintro e M ⟨rfl,d⟩;have y:=I.trans (d.mono x);have o:=Zd j d;have L:=y.size;clear j d HC;go_wp2_with (at_builtin;refine wpList_append_own _ rfl (.tmp 44) (.tmp 46) 30 rfl w.heap.size 9 i0 (.string ByteArray.empty) 1 16 Tryz.underlying30 hi Q R S rfl (by decide) _ _ _ rfl (o.alloc _) ⟨M.heap.size,0,none⟩ 1 1 [.string (zH t)] rfl rfl (Qi _ _ _) (Vj _) (by unfold maxLen;omega) (by omega) (by simp;omega) ?_);intro v2 w2 n b _;have V:Bw w w2:=(y.alloc L _).grown b (by simp;omega) (fun k hk=>(o.lt k hk).1);have E:=OT.step (t:=t) n;clear n b o;go_wp2;go_roundw
        case rel=>exact⟨k+1,k+1,a++[t],by omega,by omega,by omega,by omega,by go_num,by go_num,by simp;omega,E,V,fun _=>⟨Q1.none _ _,uh z⟩,fun h=>by omega⟩
        case measure=>simp[intOf];omega
      ·have t3:((s[k].toNat:Int) ==47)=false:=by simpa using X
       go_wp2;go_roundw
       case rel=>
        have ⟨hn,ht⟩:=uh N J;have B:k<l.length:=by omega
        have G:l[k].toNat=s[k].toNat:=by have e:=uh T;subst e;rfl
        exact⟨k+1,f,a,by omega,by omega,Y,by omega,by go_num,rfl,by omega,j,I,fun _=>⟨hn.snoc B (by omega),ht⟩,fun h=>by omega⟩
       case measure=>simp[intOf];omega
    ·have z:=ze (uh U (by omega));go_wp2;go_ret2;exact⟨_,by rw[uh F,uh z];rfl,by rw[uh F,uh z];exact j,I⟩
  ·have t1:((s[0].toNat:Int) !=47)=true:=by simpa using A
   have F:Hid (zK s.data.toList=none):=Dh (by omega) (fun e=>A (by show ((s[0].toNat:Int))=47;have:s.data.toList[0].toNat=s[0].toNat:=rfl;omega));have O:=ze g;clear g A;go_in;go_wp2;go_ret2;exact⟨_,by rw[uh F];rfl,by rw[uh F];exact uh O,r⟩
theorem SS.drewN{w:Wo}{xa:Option Addr}{xb xo:Nat}{ss:List Bs}(h:SS w xa xb xo ss)(n:Nat):SS (w.drewN n) xa xb xo ss:=⟨h.ad,h.cell⟩
theorem Dq:(Tryz.prog.info? 149).map (·.size)=some 2:=by kernel_rfl
theorem AF:liesAt Tryz.prog Tryz.prog.depth 149 (2 / Tryz.prog.cellsOf 149) 0 149 1=true:=by kernel_rfl
theorem infoByte:(Tryz.prog.info? 5).map (fun i=>(i.zero,i.size,i.bytes))=some (some (.int .u8 0),1,1):=by kernel_rfl
theorem Dr(b:Nat)(w:Wo)(h0:w.cell? ⟨b,0,none⟩=some (.pointer (some ⟨b,0,none⟩))):
  Calls Tryz.prog 219 #[.pointer (some ⟨b,0,none⟩)] w fun e w'=>e= .returned (.tuple #[])/\w'=w:=by
 obtain⟨j,a,_⟩:=yA.1 Dq;go_in;go_wp2;rw[Lib.run_neq_ptr_same w _ Tryz.underlying147 a];go_wp2;go_end0;exact⟨rfl,rfl⟩
theorem Ds(b:Nat)(w:Wo)(h0:w.cell? ⟨b,0,none⟩=some (.pointer none))(hsh:w.shape? b=some (149,2))(hfz:w.frozen? ⟨b,0,none⟩=false):
  Calls Tryz.prog 219 #[.pointer (some ⟨b,0,none⟩)] w fun e w'=>e= .returned (.tuple #[])/\w'=w.setCell ⟨b,0,none⟩ (.pointer (some ⟨b,0,none⟩)):=by
 obtain⟨j,d,a⟩:=yA.1 Dq;go_in;go_wp2;rw[Lib.run_to_unsafe w ⟨b,0,none⟩ Tryz.underlying147 Tryz.underlying188 d (by rw[a];decide) hsh (Nat.zero_lt_succ 1)];simp only[Result.andThen];rw[Oper.upon_value];go_wp2;rw[run_callFunc_extern Tryz.func245 (by kernel_rfl) (by kernel_rfl) (by kernel_rfl) (e:=Extern.AbiNoEscape.same) (by kernel_rfl)];rw[Lib.run_noEscape];simp only[Result.andThen];rw[Oper.upon_value];go_wp2;rw[Lib.run_from_unsafe w ⟨b,0,none⟩ Tryz.underlying188 Tryz.underlying147 d hsh AF];simp only[Result.andThen];rw[Oper.upon_value];go_wp2;go_end0;exact⟨rfl,rfl⟩
theorem Dt(B b:Nat)(bs:List Value)(w:Wo)(h:Lib.IsBuilder 149 5 B b bs w):
  Calls Tryz.prog 219 #[.pointer (some ⟨b,0,none⟩)] w fun e w'=>e= .returned (.tuple #[])/\(Lib.BuilderAt 149 5 B b (.pointer (some ⟨b,0,none⟩)) bs w'/\Below B w w'):=by
 rcases h with h | h
 ·refine (Ds b w h.cell0 h.shape h.frozen0).mono ?_;rintro e w' ⟨rfl,rfl⟩;exact⟨rfl,h.used _,(yI B w).setCell (p:=⟨b,0,none⟩) h.1 _⟩
 ·refine (Dr b w h.cell0).mono ?_;rintro e w' ⟨rfl,rfl⟩;exact⟨rfl,h,yI B _⟩
theorem Ka(B b:Nat)(bs:List Value)(c:Int)(w:Wo)(h:Lib.IsBuilder 149 5 B b bs w)(hlen:bs.length+1<=140737488355328)(hBw:B<=w.heap.size):
  Calls Tryz.prog 186 #[.pointer (some ⟨b,0,none⟩),.int .u8 c] w fun e w'=>e= .returned .nilIface/\(Lib.BuilderAt 149 5 B b (.pointer (some ⟨b,0,none⟩)) (bs++[.int .u8 c]) w'/\Below B w w'):=by
 obtain⟨J,H,z,A,C⟩:=info_parts infoByte;go_in;go_wp2_with (go_at_call 219;refine (Dt B b bs _ h).mono ?_);rintro e o ⟨rfl,G,i⟩;obtain⟨D,v,m,n,y⟩:=G;have c0:o.cell? ⟨b,0,none⟩=some (.pointer (some ⟨b,0,none⟩)):=by rw[yG m];rfl
 have c1:o.cell? ⟨b,1,none⟩=some v:=by rw[yG m];rfl
 go_wp2_with (at_builtin;refine wpList_append_own _ rfl _ _ 22 rfl B 5 J (.int .u8 0) 1 1 Tryz.underlying22 H z A C rfl (by decide) _ _ _ rfl (n.alloc _) ⟨o.heap.size,0,none⟩ 1 1 [.int .u8 c] rfl rfl ?c1 ?c2 ?c3 ?c4 ?c5 ?_)
 case c1=>
  intro j u q
  match j,q with
  | 0,q=>simp at q;subst q;simp[Addr.add]
 case c2=>intro u E;simp at E;subst E;rfl
 case c3=>unfold maxLen;omega
 case c4=>omega
 case c5=>have:=i.size;simp;omega
 intro K r d a _;have x:b<o.heap.size:=by
  rcases Nat.lt_or_ge b o.heap.size with s | s
  ·exact s
  ·simp[Array.getElem?_eq_none s]at m
 have l:r.heap[b]?=some (.cells #[.pointer (some ⟨b,0,none⟩),v] 149 (0,0)):=by
  rw[a.block b (by simp;omega) (fun e=>y e.symm),Lib.alloc_old o _ b x];exact m
 have L:r.cell? ⟨b,0,none⟩=some (.pointer (some ⟨b,0,none⟩)):=by rw[yG l];rfl
 have M:r.cell? ⟨b,1,none⟩=some v:=by rw[yG l];rfl
 have N:r.frozen? ⟨b,1,none⟩=false:=yJ l 1;obtain⟨g,f,rfl⟩:∃ g f,K= .slice (some ⟨g,0,none⟩) (bs.length+1) f:=by
  rcases d.2 with ⟨_,O⟩ |⟨g,f,F,I,_⟩
  ·omega
  ·exact⟨g,f,I⟩
 go_wp2;go_ret;refine⟨rfl,?_,?_⟩
 ·exact Lib.BuilderAt.put (T:=149) (e:=5) D l (bs':=bs++[.int .u8 c]) (by simpa using d) (by decide)
 ·exact ((i.alloc (by have:=i.size;omega) _).grown a (by have:=i.size;simp;omega) (fun k hk=>(n.lt k hk).1)).setCell (p:=⟨b,1,none⟩) D _
theorem Du(B b:Nat)(bs:List Value)(s:Bs)(w:Wo)(h:Lib.IsBuilder 149 5 B b bs w)(hlen:bs.length+s.size<=140737488355328)(hBw:B<=w.heap.size):
  Calls Tryz.prog 194 #[.pointer (some ⟨b,0,none⟩),.string s] w fun e w'=>e= .returned (.tuple #[.int .i64 s.size,.nilIface])/\(Lib.BuilderAt 149 5 B b (.pointer (some ⟨b,0,none⟩)) (bs++Lib.strCells s) w'/\Below B w w'):=by
 obtain⟨I,H,y,z,A⟩:=info_parts infoByte;go_in;go_wp2_with (go_at_call 219;refine (Dt B b bs _ h).mono ?_);rintro e n ⟨rfl,G,m⟩;obtain⟨D,v,i,j,u⟩:=G;have c0:n.cell? ⟨b,0,none⟩=some (.pointer (some ⟨b,0,none⟩)):=by rw[yG i];rfl
 have c1:n.cell? ⟨b,1,none⟩=some v:=by rw[yG i];rfl
 go_wp2_with (at_builtin;refine Lib.wpList_append_own_string _ rfl _ _ 22 9 rfl B 5 I Tryz.underlying22 Tryz.underlying9 H y z A _ _ _ rfl j s rfl ?c3 ?c4 ?c5 ?_)
 case c3=>unfold maxLen;omega
 case c4=>omega
 case c5=>have:=m.size;omega
 intro J o d a _;have r:b<n.heap.size:=by
  rcases Nat.lt_or_ge b n.heap.size with q | q
  ·exact q
  ·simp[Array.getElem?_eq_none q]at i
 have f:o.heap[b]?=some (.cells #[.pointer (some ⟨b,0,none⟩),v] 149 (0,0)):=by
  rw[a.block b r (fun e=>u e.symm)];exact i
 have K:o.cell? ⟨b,0,none⟩=some (.pointer (some ⟨b,0,none⟩)):=by rw[yG f];rfl
 have L:o.cell? ⟨b,1,none⟩=some v:=by rw[yG f];rfl
 have M:o.frozen? ⟨b,1,none⟩=false:=yJ f 1;obtain⟨C,E,l,rfl⟩:∃ C E l,J= .slice C E l:=by
  rcases d.2 with ⟨x,_⟩ |⟨g,l,F,x,_⟩
  ·exact⟨_,_,_,x⟩
  ·exact⟨_,_,_,x⟩
 go_wp2;go_ret2;refine⟨rfl,?_,?_⟩
 ·exact Lib.BuilderAt.put (T:=149) (e:=5) D f (bs':=bs++Lib.strCells s) (by simpa [Lib.strCells_length]using d) (by decide)
 ·exact (m.grown a (by have:=m.size;omega) (fun k hk=>(j.lt k hk).1)).setCell (p:=⟨b,1,none⟩) D _
open Go.Shelf in
def Dv:Go.Shelf.Ren:=⟨fun | 169=>81 | n=>n,fun | 70=>147 | 9=>9 | 0=>0 | 72=>149 | 37=>22 | 127=>201 | 3=>3 | 5=>5 | n=>n,fun | n=>n⟩
theorem AG:Go.Proofs.Lays.n169 Tryz.prog Dv:={
 mixed:=by kernel_rfl
 f169:=Tryz.func81.trans (congrArg some (by kernel_rfl))
 t0:=Tryz.underlying0
 a0:=Tryz.isAgg0
 z0:=Tryz.sizeOf0
 v0:=Tryz.zeroValue0
 t3:=Tryz.underlying3
 a3:=Tryz.isAgg3
 z3:=Tryz.sizeOf3
 v3:=Tryz.zeroValue3
 t9:=Tryz.underlying9
 a9:=Tryz.isAgg9
 z9:=Tryz.sizeOf9
 v9:=Tryz.zeroValue9
 t37:=Tryz.underlying22
 a37:=Tryz.isAgg22
 z37:=Tryz.sizeOf22
 v37:=Tryz.zeroValue22
 t70:=Tryz.underlying147
 a70:=Tryz.isAgg147
 z70:=Tryz.sizeOf147
 v70:=Tryz.zeroValue147
 t72:=Tryz.underlying149
 a72:=Tryz.isAgg149
 z72:=Tryz.sizeOf149
 v72:=Tryz.zeroValue149
 t127:=Tryz.underlying201
 a127:=Tryz.isAgg201
 z127:=Tryz.sizeOf201
 v127:=Tryz.zeroValue201}
theorem AH:Builder.Extra Tryz.prog Dv:={
 sizeBuilder:=by kernel_rfl
 liesBuilder:=by kernel_rfl
 t5:=Tryz.underlying5
 a5:=Tryz.isAgg5
 z5:=Tryz.sizeOf5
 v5:=Tryz.zeroValue5
 infoByte:=by kernel_rfl
 cellsByte:=by kernel_rfl
 sizeByte:=by kernel_rfl
 neB5:=by decide}
theorem Kb(B b:Nat)(l:List UInt8)(w:Wo)(h:Lib.IsBuilder 149 5 B b (Lib.byteCells l) w)(hBw:B<=w.heap.size):
  Calls Tryz.prog 81 #[.pointer (some ⟨b,0,none⟩)] w fun e w'=>e= .returned (.string ⟨l.toArray⟩)/\Below B w w':=Any.Builder_String_any AG AH B b l w h hBw
abbrev zU(B b:Nat)(l:List UInt8)(w:Wo):Prop:=Lib.IsBuilder 149 5 B b (Lib.byteCells l) w
theorem zU.byte{B b:Nat}{l:List UInt8}{c:UInt8}{w:Wo}{n:Int}(hn:n=(c.toNat:Int))(h:Lib.BuilderAt 149 5 B b (.pointer (some ⟨b,0,none⟩)) (Lib.byteCells l++[.int .u8 n]) w):zU B b (l++[c]) w:=by
 subst hn;exact Or.inr (by rw[Lib.byteCells_append];exact h)
theorem zU.str{B b:Nat}{l:List UInt8}{s:Bs}{m:List UInt8}{w:Wo}(hm:m=s.data.toList)(h:Lib.BuilderAt 149 5 B b (.pointer (some ⟨b,0,none⟩)) (Lib.byteCells l++Lib.strCells s) w):zU B b (l++m) w:=by
 subst hm;exact Or.inr (by rw[Lib.byteCells_append];exact h)
theorem zU.cells{B b:Nat}{l m:List UInt8}{xs:List Value}{w:Wo}(hx:xs=Lib.byteCells m)(h:Lib.BuilderAt 149 5 B b (.pointer (some ⟨b,0,none⟩)) (Lib.byteCells l++xs) w):zU B b (l++m) w:=by
 subst hx;exact Or.inr (by rw[Lib.byteCells_append];exact h)
theorem AJ(s:Bs)(w:Wo)(hs:s.size<=1048576):
  Calls Tryz.prog 138 #[.string s] w fun e w'=>e= .returned (XC (zQ s.data.toList))/\Bw w w':=by
 go_in;go_wp2;go_loopw [5] (fun i wr=>∃ (j:Nat) (b:List UInt8),j<=s.size/\i= .int .i64 j/\zU w.heap.size w.heap.size b wr/\Bw w wr/\(Lib.byteCells b).length<=j/\Jp s.data.toList j b) (fun i _=>s.size - (intOf i).toNat)
 case atStart=>exact⟨0,[],yu _,rfl,Lib.fresh_isBuilder _ _ w,(yI _ _).alloc (ye _) _,ye _,Jp.start _⟩
 case round=>
  obtain⟨j,b,E,rfl,n,q,p,x⟩:=hrel;have g:=q.size;have r:=ze x;clear x;by_cases y:j<s.size
  ·have o:=Qw s j y;by_cases a:(s[j].toNat:Int)=126
   ·have C:((s[j].toNat:Int) !=126)=false:=by simpa using a
    by_cases l:j+1<s.size
    ·have k:=Qw s (j+1) l;have B:((j:Int)+1 ==(s.size:Int))=false:=by simp;omega
     by_cases d:(s[j+1].toNat:Int)=48
     ·have A:((s[j+1].toNat:Int) ==48)=true:=by simpa using d
      have v:Hid (zQ (s.data.toList.drop j)=(zQ (s.data.toList.drop (j+2))).map ([126]++·)):=by show _=_;rw[o,k,Uc _ a d]
      clear a d o k;go_wp2_with (go_at_call 186;refine (Ka w.heap.size w.heap.size _ _ _ n (by omega) g).mono ?_);rintro e z ⟨rfl,l,f⟩;have m:=zU.byte (c:=126) rfl l;clear l n;go_wp2;go_roundw
      case rel=>exact⟨j+2,b++[126],by omega,by go_num,m,q.trans f,by simp[Lib.byteCells]at p ⊢;omega,(uh r).step (uh v)⟩
      case measure=>simp[intOf];omega
     ·by_cases h:(s[j+1].toNat:Int)=49
      ·have A:((s[j+1].toNat:Int) ==48)=false:=by simpa using d
       have D:((s[j+1].toNat:Int) ==49)=true:=by simpa using h
       have v:Hid (zQ (s.data.toList.drop j)=(zQ (s.data.toList.drop (j+2))).map ([47]++·)):=by show _=_;rw[o,k,Ud _ a h]
       clear a d h o k;go_wp2_with (go_at_call 186;refine (Ka w.heap.size w.heap.size _ _ _ n (by omega) g).mono ?_);rintro e z ⟨rfl,l,f⟩;have m:=zU.byte (c:=47) rfl l;clear l n;go_wp2;go_roundw
       case rel=>exact⟨j+2,b++[47],by omega,by go_num,m,q.trans f,by simp[Lib.byteCells]at p ⊢;omega,(uh r).step (uh v)⟩
       case measure=>simp[intOf];omega
      ·have A:((s[j+1].toNat:Int) ==48)=false:=by simpa using d
       have D:((s[j+1].toNat:Int) ==49)=false:=by simpa using h
       have u:=ze ((uh r).bad (by rw[o,k,U9 _ a d h]));clear a d h o k n;go_wp2;go_ret2;exact⟨by rw[uh u];rfl,q⟩
    ·have B:((j:Int)+1 ==(s.size:Int))=true:=by simp;omega
     have u:=ze ((uh r).bad (by rw[o,Ue s (j+1) l,U8 a]));clear a o n;go_wp2;go_ret2;exact⟨by rw[uh u];rfl,q⟩
   ·have C:((s[j].toNat:Int) !=126)=true:=by simpa using a
    have v:Hid (zQ (s.data.toList.drop j)=(zQ (s.data.toList.drop (j+1))).map ([s[j]]++·)):=by show _=_;rw[o,Ub _ a]
    clear a o;go_wp2_with (go_at_call 186;refine (Ka w.heap.size w.heap.size _ _ _ n (by omega) g).mono ?_);rintro e z ⟨rfl,l,f⟩;have m:=zU.byte (c:=s[j]) rfl l;clear l n;go_wp2;go_roundw
    case rel=>exact⟨j+1,b++[s[j]],by omega,by go_num,m,q.trans f,by simp[Lib.byteCells]at p ⊢;omega,(uh r).step (uh v)⟩
    case measure=>simp[intOf];omega
  ·have u:=ze ((uh r).fin (by rw[Zg];omega));go_wp2_with (go_at_call 81;refine (Kb w.heap.size w.heap.size b _ n g).mono ?_);rintro e z ⟨rfl,f⟩;clear n;go_wp2;go_ret2;exact⟨by rw[uh u];rfl,q.trans f⟩
def AK(k:Nat):UInt8:=UInt8.ofNat (48+k % 10)
def Dw:Nat->Nat->Bs->Bs
 | 0,_,acc=>acc
 | f+1,k,acc=>if k=0 then acc else Dw f (k / 10) (⟨#[AK k]⟩++acc)
def AL(k:Nat):Bs:=⟨#[109]⟩++Dw k k ByteArray.empty
def zhr(k n:Nat):List Value:=(List.range n).map fun j=>.string (AL (k+j))
theorem Wm(xa:Option Addr)(xb xo xc:Nat)(ss:List Bs)(w:Wo)(h:SS w xa xb xo ss)(hm:ss.length+qH ss<=1048576):
  Calls Tryz.prog 42 #[.slice xa ss.length xc] w fun e w'=>e= .returned (.string ⟨(ZC ss).toArray⟩)/\Bw w w':=by
 obtain⟨R,Q,D,E,F⟩:=info_parts Gf;have x:=h.ad;have HC:=ze h.cell;clear h;have hlen:ss.length<=1048576:=by omega
 have HM:=ze hm;clear hm;go_in;go_wp2;go_loopw [3,4] (fun v i wr=>∃ k:Nat,k<=ss.length/\i= .int .i64 k/\wr.ownsRow w.heap.size 5 1 v (Lib.byteCells (ZC (ss.take k))).length (Lib.byteCells (ZC (ss.take k)))/\Bw w wr) (fun _ i _=>ss.length - (intOf i).toNat)
 case atStart=>exact⟨0,yu _,rfl,World.ownsRow_lit w #[] 0 (ye _) (by unfold maxLen;omega) rfl,(yI _ _).alloc (ye _) _⟩
 case round=>
  obtain⟨k,G,rfl,a,y⟩:=hrel;by_cases C:k<ss.length
  ·have L:=uh HC k C;have aa:xb<w.heap.size:=yK _ _ L;obtain rfl:=x (by omega);have N:=Xz C;have hsz:(ss.getD k ByteArray.empty).size<=1048576:=by have:=U6 C;have:=uh HM;omega
   have hpl:(ZC (ss.take k)).length+2*(ss.getD k ByteArray.empty).size+1<=2097152:=by
    have h1:=Db (ss.take k);have h2:=U6 C;have h3:=uh HM;have h4:(ss.take k).length=k:=by rw[ym];omega
    omega
   clear x;generalize hs:ss.getD k ByteArray.empty=s at *;have K:=ze N;have HS:=ze hs;clear N hs;have HP:Hid (ZC (ss.take (k+1))=ZC (ss.take k)++47 :: zT s.data.toList):=by
    have e:=uh K;show _=_;rw[e,Da]
   generalize ZC (ss.take k)=p at *;clear K;have B:=ze y;have o:=y.size;clear y;have M:(Lib.byteCells p).length=p.length:=yL p;have H:=ze M;clear M;go_wp2_with (at_builtin;refine wpList_append_own _ rfl (.tmp 13) (.tmp 14) 22 rfl w.heap.size 5 R (.int .u8 0) 1 1 Tryz.underlying22 Q D E F rfl (by decide) _ _ _ rfl (a.alloc _) ⟨wr.heap.size,0,none⟩ 1 1 [.int .u8 47] rfl rfl (Qi _ _ _) (YH _ _) (by rw[uh H];unfold maxLen;omega) (by rw[uh H];omega) (by simp;omega) ?_);intro v1 w1 A r _;have I:Bw w w1:=((uh B).alloc o _).grown r (by simp;omega) (fun k G=>(a.lt k G).1);have n:=ZY (m:=[47]) A (by simp[Lib.byteCells]) rfl;clear A r a B H;go_wp2;go_loopw [3,5] (fun v i wr=>∃ j:Nat,j<=s.size/\i= .int .i64 j/\wr.ownsRow w.heap.size 5 1 v (Lib.byteCells (p++47 :: zT (s.data.toList.take j))).length (Lib.byteCells (p++47 :: zT (s.data.toList.take j)))/\Bw w wr) (fun _ i _=>s.size - (intOf i).toNat)
   case atStart=>exact⟨0,yu _,rfl,by simpa [zT]using n,I⟩
   case round=>
    obtain⟨j,hj,rfl,a,y⟩:=hrel;have hc:wr.cell? ⟨xb,xo+k,none⟩=some (.string s):=(y.cell (p:=⟨xb,xo+k,none⟩) aa).trans L;have o:=y.size;by_cases X:j<s.size
    ·have Y:(Lib.byteCells (p++47 :: zT (s.data.toList.take j))).length<=p.length+1+2*j:=by
      have:=Vg (s.data.toList.take j);have h5:(s.data.toList.take j).length=j:=by rw[ym,Zg];omega
      rw[yL,yh,yp];omega
     have T:Hid (p++47 :: zT (s.data.toList.take (j+1))=(p++47 :: zT (s.data.toList.take j))++QV s[j]):=by
      show _=_
      rw[Ua s j X,S9];simp
     generalize p++47 :: zT (s.data.toList.take j)=q at *;have B:=ze y;clear y n I;by_cases l:(s[j].toNat:Int)=126
     ·have t1:((s[j].toNat:Int) ==126)=true:=by simpa using l
      have J:=ze (OY l);clear l;go_wp2_with (at_builtin;refine wpList_append_own _ rfl (.tmp 32) (.tmp 33) 22 rfl w.heap.size 5 R (.int .u8 0) 1 1 Tryz.underlying22 Q D E F rfl (by decide) _ _ _ rfl (a.alloc _) ⟨wr.heap.size,0,none⟩ 2 2 [.int .u8 126,.int .u8 48] rfl rfl (Jw _ _ _ _) (JQ _ _ _) (by unfold maxLen;omega) (by omega) (by simp;omega) ?_);intro v2 O d b _;have z:Bw w O:=((uh B).alloc o _).grown b (by simp;omega) (fun k G=>(a.lt k G).1);have f:=ZY (m:=[126,48]) d (by simp[Lib.byteCells]) rfl;clear d b a B Y;go_wp2;go_roundw
      case rel=>exact⟨j+1,by omega,by go_num,by rw[uh T,uh J];exact f,z⟩
      case measure=>simp[intOf];omega
     ·have t1:((s[j].toNat:Int) ==126)=false:=by simpa using l
      by_cases u:(s[j].toNat:Int)=47
      ·have t2:((s[j].toNat:Int) ==47)=true:=by simpa using u
       have J:=ze (OZ u);clear l u;go_wp2_with (at_builtin;refine wpList_append_own _ rfl (.tmp 42) (.tmp 43) 22 rfl w.heap.size 5 R (.int .u8 0) 1 1 Tryz.underlying22 Q D E F rfl (by decide) _ _ _ rfl (a.alloc _) ⟨wr.heap.size,0,none⟩ 2 2 [.int .u8 126,.int .u8 49] rfl rfl (Jw _ _ _ _) (JQ _ _ _) (by unfold maxLen;omega) (by omega) (by simp;omega) ?_);intro v2 O d b _;have z:Bw w O:=((uh B).alloc o _).grown b (by simp;omega) (fun k G=>(a.lt k G).1);have f:=ZY (m:=[126,49]) d (by simp[Lib.byteCells]) rfl;clear d b a B Y;go_wp2;go_roundw
       case rel=>exact⟨j+1,by omega,by go_num,by rw[uh T,uh J];exact f,z⟩
       case measure=>simp[intOf];omega
      ·have t2:((s[j].toNat:Int) ==47)=false:=by simpa using u
       have J:=ze (U7 l u);clear l u;go_wp2_with (at_builtin;refine wpList_append_own _ rfl (.tmp 45) (.tmp 52) 22 rfl w.heap.size 5 R (.int .u8 0) 1 1 Tryz.underlying22 Q D E F rfl (by decide) _ _ _ rfl (a.alloc _) ⟨wr.heap.size,0,none⟩ 1 1 [.int .u8 s[j].toNat] rfl rfl (Qi _ _ _) (YH _ _) (by unfold maxLen;omega) (by omega) (by simp;omega) ?_);intro v2 O d b _;have z:Bw w O:=((uh B).alloc o _).grown b (by simp;omega) (fun k G=>(a.lt k G).1);have f:=ZY (m:=[s[j]]) d (by simp[Lib.byteCells]) rfl;clear d b a B Y;go_wp2;go_roundw
       case rel=>exact⟨j+1,by omega,by go_num,by rw[uh T,uh J];exact f,z⟩
       case measure=>simp[intOf];omega
    ·have W:j=s.size:=by omega
     subst W;rw[XA]at a;clear n I;go_wp2;go_roundw
     case rel=>exact⟨k+1,by omega,by go_num,by rw[uh HP];exact a,y⟩
     case measure=>simp[intOf];omega
  ·have e:ss.take k=ss:=yr (by omega);rw[e]at a;clear x;have hl:=yL (ZC ss);rcases a.2 with ⟨Z,h0⟩ |⟨g,U,cur,Z,_⟩
   ·have e0:ZC ss=[]:=yO (by omega);subst Z;have V:=run_convert_bytes_nil (P:=Tryz.prog) wr 22 5 Tryz.underlying22 Tryz.underlying5 0 0 9 Tryz.underlying9;have S:=ze e0;clear e0 h0 a hl;go_wp2;go_ret;exact⟨by rw[uh S];rfl,y⟩
   ·subst Z;rw[hl]at a ⊢;have V:=run_convert_bytes_back (P:=Tryz.prog) wr 22 9 5 ⟨g,0,none⟩ U (ZC ss) Tryz.underlying22 Tryz.underlying5 Tryz.underlying9 (fun j hj=>by
     rw[show ((⟨g,0,none⟩:Addr).add j)=⟨g,j,none⟩from by simp[Addr.add];omega,a.cellAt j (by omega)];exact XB hj)
    go_wp2;go_ret;exact⟨rfl,y⟩
def pre(ts us:List (List UInt8)):Bool:=decide (ts.length<=us.length/\∀ j,j<ts.length->ts.getD j []=us.getD j [])
theorem XK{ts:List (List UInt8)}{j:Nat}(h:j<ts.length):(ts.map zH).getD j ByteArray.empty=zH (ts.getD j []):=by simp[h]
theorem AM{a b:List UInt8}(h:zH a=zH b):a=b:=by
 have:(zH a).data.toList=(zH b).data.toList:=by rw[h]
 simpa [zH]using this
theorem Nm{B1 B2:Nat}(v u:Value)(ts us:List (List UInt8))(w:Wo)(h:OT w B1 v ts)(k:OT w B2 u us)(hl:ts.length<=1048577)(hl2:us.length<=1048577):
  Calls Tryz.prog 85 #[v,u] w fun e w'=>e= .returned (.bool (pre ts us))/\∃ n,w'=w.drewN n:=by
 obtain⟨a,g,M,rfl,F,_⟩:=h.shape;obtain⟨Q,R,I,rfl,s,_⟩:=k.shape;have d:=F.ad;have f:=s.ad;have G:=ze F.cell;have H:=ze s.cell;rw[yl]at d f;simp only[yl]at G H;clear h k F s;by_cases A:ts.length<=us.length
 ·have B:¬ (us.length:Int)<(ts.length:Int):=by omega
  go_in;go_wp2;go_loopw [5] (fun i wr=>∃ m:Nat,m<=ts.length/\i= .int .i64 m/\(∀ j,j<m->ts.getD j []=us.getD j [])/\∃ n,wr=w.drewN n) (fun i _=>ts.length - (intOf i).toNat)
  case atStart=>exact⟨0,yu _,rfl,fun j hj=>by omega,0,rfl⟩
  case round=>
   obtain⟨m,S,rfl,b,n,rfl⟩:=hrel;have E:=ze b;clear b;by_cases o:m<ts.length
   ·have l:m<us.length:=by omega
    have y:=uh G m o;have z:=uh H m l;obtain rfl:=d (by omega);obtain rfl:=f (by omega);rw[XK o]at y;rw[XK l]at z;have x:Hid (ts.getD m []≠us.getD m []->pre ts us=false):=fun h=>by
     unfold pre;rw[decide_eq_false_iff_not];rintro⟨_,O⟩;exact h (O m o)
    have L:Hid (ts.getD m []=us.getD m []->∀ j,j<m+1->ts.getD j []=us.getD j []):=fun h j hj=>by
     by_cases e:j=m
     ·subst e;exact h
     ·exact uh E j (by omega)
    clear d f E;generalize ts.getD m []=p at *;generalize us.getD m []=q at *;have J:(m:Int)<(ts.length:Int):=by omega
    have K:(m:Int)<(us.length:Int):=by omega
    rw[Nat.zero_add]at y z;by_cases r:p=q
    ·subst r;have C:=ze (uh L rfl);go_wp2;go_quiet (fail);go_wp2;go_roundw
     case rel=>exact⟨m+1,by omega,by go_num,uh C,_,by first | rfl |(simp[World.drewN_drewN])⟩
     case measure=>simp[intOf];omega
    ·have D:=ze (uh x r);have P:((zH p).toList ==(zH q).toList)=false:=by
      rw[yd,Lib.toList_data,Lib.toList_data];intro e;exact r (by simpa [zH]using e)
     go_wp2;go_quiet (fail);go_wp2;go_ret;exact⟨by rw[uh D];rfl,_,World.drewN_drewN ..⟩
   ·have x:Hid (pre ts us=true):=by
     show _=_;unfold pre;rw[decide_eq_true_iff];exact⟨A,fun j hj=>uh E j (by omega)⟩
    clear d f;go_wp2;go_ret;exact⟨by rw[uh x];rfl,_,rfl⟩
 ·have x:Hid (pre ts us=false):=by
   show _=_;unfold pre;rw[decide_eq_false_iff_not];rintro⟨N,_⟩;exact A N
  have B:(us.length:Int)<(ts.length:Int):=by omega
  go_in;go_wp2;go_ret;exact⟨by rw[uh x];rfl,0,rfl⟩
end Go.Proofs.YtpaecnbdoljafaaGreatDoor
namespace Go.Proofs.YtpaecnbdoljafaaGreatDoor
def YJ(o1 o2:Option (List (List UInt8))):Int:=match o1,o2 with
 | some ts,some us=>if pre ts us=true/\pre us ts=true then 1 else if pre ts us=true then 2 else if pre us ts=true then 3 else 0
 | _,_=>-1
def Nn(n:Nat)(ts us:List (List UInt8)):Bool:=decide ((ts.map zH).take n=(us.map zH).take n)
theorem AN{ts us:List (List UInt8)}(h:ts.length<=us.length):Nn ts.length ts us=pre ts us:=by
 unfold Nn pre;rw[decide_eq_decide];constructor
 ·intro e;refine⟨h,fun j b=>?_⟩;have:=congrArg (fun l=>l[j]?) e;simp[b]at this;have a:j<us.length:=by omega
  simp[a]at this;simpa [b,a]using AM this
 ·rintro⟨_,e⟩;apply List.ext_getElem?;intro j;by_cases b:j<ts.length
  ·have a:j<us.length:=by omega
   have:=e j b;simp[b,a]at this;simp[b,a,this]
  ·simp[List.getElem?_take,b]
theorem AO{ts us:List (List UInt8)}(h:pre ts us=true):ts.length<=us.length:=by
 unfold pre at h;exact (of_decide_eq_true h).1
theorem XL:∀ t:List UInt8,zQ (zT t)=some t
 | []=>rfl
 | c :: t=>by
  have ih:=XL t;have e:zT (c :: t)=QV c++zT t:=by simp[zT]
  rw[e];by_cases a:(c.toNat:Int)=126
  ·rw[OY a];show zQ (126 :: 48 :: zT t)=_
   rw[Uc _ (by decide) (by decide),ih];have:c=126:=by have:=UInt8.ofNat_toNat (x:=c);rw[show c.toNat=126 from by omega]at this;exact this.symm
   subst this;rfl
  ·by_cases b:(c.toNat:Int)=47
   ·rw[OZ b];show zQ (126 :: 49 :: zT t)=_
    rw[Ud _ (by decide) (by decide),ih];have:c=47:=by have:=UInt8.ofNat_toNat (x:=c);rw[show c.toNat=47 from by omega]at this;exact this.symm
    subst this;rfl
   ·rw[U7 a b];show zQ (c :: zT t)=_
    rw[Ub _ a,ih];rfl
theorem XM(t:List UInt8):∀ c∈zT t,¬ c.toNat=47:=by
 intro c d;unfold zT at d;obtain⟨a,_,b⟩:=List.mem_flatMap.1 d;unfold QV at b;split at b
 ·simp at b;rcases b with rfl | rfl<;>decide
 ·split at b
  ·simp at b;rcases b with rfl | rfl<;>decide
  ·simp at b;subst b;assumption
theorem Kc(s:Bs)(ss:List Bs):ZC (s :: ss)=47 ::(zT s.data.toList++ZC ss):=by simp[ZC]
theorem Dx:∀ (ss:List Bs) (t:List UInt8),ZK (zT t++ZC ss)=zT t :: ss.map (fun s=>zT s.data.toList)
 | [],t=>by show ZK (zT t++[])=_;rw[yT,De (XM t)];rfl
 | s :: ss,t=>by rw[Kc,Dd (XM t) (by decide),Dx ss];rfl
theorem Dy:∀ ts:List (List UInt8),(ts.map zT).mapM zQ=some ts
 | []=>rfl
 | t :: ts=>by rw[yi,List.mapM_cons,XL,Dy ts];rfl
theorem Dz(ts:List (List UInt8)):zK (ZC (ts.map zH))=some ts:=by
 cases ts with
 | nil=>rfl
 | cons t ts=>
  rw[yi,Kc,zK,yg (by decide)];show Qq (zT t++ZC (ts.map zH))=_
  unfold Qq;rw[Dx,List.map_map];have:(zT t :: List.map ((fun s=>zT s.data.toList)∘zH) ts)=(t :: ts).map zT:=by simp[zH]
  rw[this,Dy]
theorem AP(ts us:List (List UInt8)):pre ts (ts++us)=true:=by
 unfold pre;rw[decide_eq_true_iff];exact⟨by simp,fun j hj=>by simp[List.getD,List.getElem?_append_left hj]⟩
end Go.Proofs.YtpaecnbdoljafaaGreatDoor
namespace Go.Proofs.YtpaecnbdoljafaaGreatDoor
open Go.RowKit
structure Fr(bl:List Nat)(w w':Wo):Prop where
 os:w'.os=w.os
 tape:w'.tape=w.tape
 output:w'.output=w.output
 size:w.heap.size<=w'.heap.size
 block:∀ k,k<w.heap.size->k ∉ bl->w'.heap[k]?=w.heap[k]?
theorem Fr.refl(bl:List Nat)(w:Wo):Fr bl w w:=⟨rfl,rfl,rfl,ye _,fun _ _ _=>rfl⟩
theorem Fr.trans'{bl bl':List Nat}{a b c:Wo}(h:Fr bl a b)(k:Fr bl' b c)(hs:∀ i∈bl',i∈bl∨a.heap.size<=i):Fr bl a c:=
 ⟨k.os.trans h.os,k.tape.trans h.tape,k.output.trans h.output,yQ h.size k.size,fun i hi hn=>
  (k.block i (yF hi h.size) (fun e=>by rcases hs i e with d | d;exact hn d;omega)).trans (h.block i hi hn)⟩
theorem Fr.trans{bl:List Nat}{a b c:Wo}(h:Fr bl a b)(k:Fr bl b c):Fr bl a c:=h.trans' k fun _=>.inl
theorem Fr.mono{bl bl':List Nat}{a b:Wo}(h:Fr bl a b)(hs:∀ i∈bl,i∈bl'):Fr bl' a b:=
 ⟨h.os,h.tape,h.output,h.size,fun i hi hn=>h.block i hi fun e=>hn (hs i e)⟩
theorem Fr.of_below{bl:List Nat}{w w':Wo}(h:Bw w w'):Fr bl w w':=⟨h.os,h.tape,h.output,h.size,fun k hk _=>h.block k hk⟩
theorem Fr.below{bl:List Nat}{B:Nat}{w w':Wo}(h:Fr bl w w')(hB:∀ b∈bl,B<=b)(hs:B<=w.heap.size):Below B w w':=
 ⟨h.os,h.tape,h.output,h.size,fun k hk=>h.block k (by omega) fun e=>by have:=hB k e;omega⟩
theorem Fr.set{bl:List Nat}{a w:Wo}(h:Fr bl a w){g:Nat}(hg:g∈bl)(j:Nat)(u:Value):Fr bl a (w.setCell ⟨g,j,none⟩ u):=
 h.trans ⟨rfl,rfl,rfl,by simp[World.setCell],fun k _ hn=>Below.heap_setCell _ _ _ _ fun e=>hn (e ▸ hg)⟩
theorem Fr.next{bl:List Nat}{a w w':Wo}(h:Fr bl a w)(hb:Bw w w'):Fr bl a w':=h.trans (.of_below hb)
theorem Fr.drewN{bl:List Nat}{a w:Wo}(h:Fr bl a w)(n:Nat):Fr bl a (w.drewN n):=⟨h.os,h.tape,h.output,h.size,h.block⟩
theorem Fr.drew{bl:List Nat}{a w:Wo}(h:Fr bl a w):Fr bl a w.drew:=⟨h.os,h.tape,h.output,h.size,h.block⟩
def Kp(bl:List Nat)(w w':Wo):Prop:=∀ b∈bl,w'.heap[b]?=w.heap[b]?
theorem Kp.of_below{bl:List Nat}{w w':Wo}(h:Bw w w')(hl:∀ b∈bl,b<w.heap.size):Kp bl w w':=fun b hb=>h.block b (hl b hb)
theorem Fr.kp{bl bl':List Nat}{w w':Wo}(h:Fr bl w w')(hl:∀ b∈bl',b<w.heap.size)(hd:∀ b∈bl',b ∉ bl):Kp bl' w w':=fun b hb=>h.block b (hl b hb) (hd b hb)
theorem Np{w w':Wo}{B e size n:Nat}{v:Value}{xs:List Value}(h:w.ownsRow B e size v n xs)(hb:Kp v.ownBlock.toList w w'):w'.ownsRow B e size v n xs:=by
 refine⟨h.1,?_⟩;rcases h.2 with f |⟨g,a,b,d,i,j,r⟩
 ·exact .inl f
 ·refine .inr ⟨g,a,b,d,i,(hb g ?_).trans j,r⟩;rw[d];simp[Value.ownBlock]
structure J6 (α:Type) where
 T:TypeId
 wd:Nat
 E:Wo->List Value->α->List Nat->Prop
 len:∀ {w vs x bl},E w vs x bl->vs.length=wd
 lt:∀ {w vs x bl},E w vs x bl->∀ b∈bl,b<w.heap.size
 keep:∀ {w w' vs x bl},E w vs x bl->Kp bl w w'->E w' vs x bl
def Zr{α:Type}(e:J6 α)(w:Wo)(v:Value)(xs:List α)(bl:List Nat):Prop:=
 ∃ ps:List (List Value×List Nat),ps.length=xs.length/\(∀ (j:Nat) (p:List Value×List Nat) (x:α),ps[j]?=some p->xs[j]?=some x->e.E w p.1 x p.2) /\
  w.ownsRow 0 e.T e.wd v xs.length (ps.flatMap (·.1))/\bl=v.ownBlock.toList++ps.flatMap (·.2)
theorem DA{ps:List (List Value×List Nat)}{wd:Nat}(h:∀ p∈ps,p.1.length=wd){j:Nat}{p:List Value×List Nat}(hj:ps[j]?=some p)(m:Nat)(hm:m<wd):(ps.flatMap (·.1))[j*wd+m]?=p.1[m]?:=by
 induction ps generalizing j with
 | nil=>simp at hj
 | cons q r ih=>
  have a:=h q yq;rw[List.flatMap_cons]
  cases j with
  | zero=>
   simp at hj;subst hj;rw[Nat.zero_mul,Nat.zero_add,List.getElem?_append_left (by omega)]
  | succ j=>
   have:=ih (fun p hp=>h p (yw _ hp)) (by simpa using hj);rw[List.getElem?_append_right (by rw[a,Nat.add_mul];omega),a,← this];congr 1;rw[Nat.add_mul];omega
theorem DB{ps:List (List Value×List Nat)}{wd:Nat}(h:∀ p∈ps,p.1.length=wd):(ps.flatMap (·.1)).length=ps.length*wd:=by
 induction ps with
 | nil=>simp
 | cons q r ih=>
  rw[List.flatMap_cons,yh,ih (fun p hp=>h p (yw _ hp)),h q yq,yp,Nat.add_mul];omega
theorem AQ{ps:List (List Value×List Nat)}{wd:Nat}(h:∀ p∈ps,p.1.length=wd){j:Nat}{p:List Value×List Nat}(hj:ps[j]?=some p)(m:Nat)(hm:m<wd)(u:Value)(bl:List Nat):
  (ps.set j (p.1.set m u,bl)).flatMap (·.1)=(ps.flatMap (·.1)).set (j*wd+m) u:=by
 induction ps generalizing j with
 | nil=>simp at hj
 | cons q r ih=>
  have a:=h q yq
  cases j with
  | zero=>
   simp at hj;subst hj;rw[List.set_cons_zero,List.flatMap_cons,List.flatMap_cons,Nat.zero_mul,Nat.zero_add,List.set_append_left _ _ (by omega)]
  | succ j=>
   have:=ih (fun p hp=>h p (yw _ hp)) (by simpa using hj);rw[List.set_cons_succ,List.flatMap_cons,List.flatMap_cons,this,List.set_append_right _ _ (by rw[a,Nat.add_mul];omega),a];congr 2;rw[Nat.add_mul];omega
theorem AR{ps:List (List Value×List Nat)}{j:Nat}{p:List Value×List Nat}(hj:ps[j]?=some p)(vs:List Value):
  (ps.set j (vs,p.2)).flatMap (·.2)=ps.flatMap (·.2):=by
 induction ps generalizing j with
 | nil=>simp at hj
 | cons q r ih=>
  cases j with
  | zero=>simp at hj;subst hj;rw[List.set_cons_zero,List.flatMap_cons,List.flatMap_cons]
  | succ j=>rw[List.set_cons_succ,List.flatMap_cons,List.flatMap_cons,ih (by simpa using hj)]
theorem DC{ps:List (List Value×List Nat)}(h:(ps.flatMap (·.2)).Nodup){j:Nat}{p:List Value×List Nat}(hj:ps[j]?=some p):p.2.Nodup:=by
 induction ps generalizing j with
 | nil=>simp at hj
 | cons q r ih=>
  rw[List.flatMap_cons,List.nodup_append]at h
  cases j with
  | zero=>simp at hj;subst hj;exact h.1
  | succ j=>exact ih h.2.1 (by simpa using hj)
theorem AU{ps:List (List Value×List Nat)}(h:(ps.flatMap (·.2)).Nodup){i j:Nat}{p q:List Value×List Nat}(hi:ps[i]?=some p)(hj:ps[j]?=some q)(hij:i≠j):∀ b∈p.2,b ∉ q.2:=by
 induction ps generalizing i j with
 | nil=>simp at hj
 | cons a r ih=>
  rw[List.flatMap_cons,List.nodup_append]at h
  cases i with
  | zero=>
   cases j with
   | zero=>omega
   | succ j=>
    simp at hi;subst hi;intro b d f;exact h.2.2 b d b (List.mem_flatMap.2 ⟨q,List.mem_of_getElem? (by simpa using hj),f⟩) rfl
  | succ i=>
   cases j with
   | zero=>
    simp at hj;subst hj;intro b d f;exact h.2.2 b f b (List.mem_flatMap.2 ⟨p,List.mem_of_getElem? (by simpa using hi),d⟩) rfl
   | succ j=>exact ih h.2.1 (by simpa using hi) (by simpa using hj) (by omega)
section
variable {α:Type} {e:J6 α} {w w':Wo} {v:Value} {xs:List α} {bl:List Nat}
theorem Kd{ps:List (List Value×List Nat)}(hl:ps.length=xs.length)(h:∀ (j:Nat) (p:List Value×List Nat) (x:α),ps[j]?=some p->xs[j]?=some x->e.E w p.1 x p.2):∀ p∈ps,p.1.length=e.wd:=by
 intro p b;obtain⟨j,a,rfl⟩:=yY.1 b;exact e.len (h j ps[j] (xs[j]'(by omega)) (yy a) (yy (by omega)))
theorem Zr.nil(e:J6 α)(w:Wo):Zr e w (.slice none 0 0) [] []:=⟨[],rfl,fun _ _ _ h=>by simp at h,w.ownsRow_nil _ _ _,rfl⟩
theorem Zr.lt(h:Zr e w v xs bl):∀ b∈bl,b<w.heap.size:=by
 obtain⟨k,l,d,g,rfl⟩:=h;intro b a;rw[List.mem_append]at a;rcases a with a | a
 ·exact (g.lt b (by simpa using a)).2
 ·obtain⟨p,i,a⟩:=List.mem_flatMap.1 a;obtain⟨j,f,rfl⟩:=yY.1 i;exact e.lt (d j k[j] (xs[j]'(by omega)) (yy f) (yy (by omega))) b a
theorem Zr.keep(h:Zr e w v xs bl)(hk:Kp bl w w'):Zr e w' v xs bl:=by
 obtain⟨g,d,a,f,rfl⟩:=h;refine⟨g,d,fun j p x hp hx=>e.keep (a j p x hp hx) fun b hb=>hk b ?_,Np f fun b hb=>hk b ?_,rfl⟩
 ·rw[List.mem_append];exact .inr (List.mem_flatMap.2 ⟨p,List.mem_of_getElem? hp,hb⟩)
 ·rw[List.mem_append];exact .inl hb
theorem Zr.below(h:Zr e w v xs bl)(hb:Bw w w'):Zr e w' v xs bl:=h.keep (.of_below hb h.lt)
theorem Zr.form(h:Zr e w v xs bl):∃ a cap,v= .slice a xs.length cap/\(∀ g,a=some g->g=⟨g.block,0,none⟩/\g.block∈bl)/\(0<xs.length->∃ g,a=some ⟨g,0,none⟩):=by
 obtain⟨l,k,j,i,rfl⟩:=h;rcases i.2 with ⟨b,f⟩ |⟨g,cap,d,b,_⟩
 ·exact⟨none,0,by rw[b,f],fun g h=>(by cases h),fun h=>by omega⟩
 ·refine⟨some ⟨g,0,none⟩,cap,b,fun g h=>?_,fun _=>⟨g,rfl⟩⟩
  cases h;exact⟨rfl,by rw[b];simp[Value.ownBlock]⟩
theorem Zr.at{g cap n:Nat}(h:Zr e w (.slice (some ⟨g,0,none⟩) n cap) xs bl){j:Nat}{x:α}(hx:xs[j]?=some x):
  ∃ vs ib,e.E w vs x ib/\(∀ m u,vs[m]?=some u->w.cell? ⟨g,j*e.wd+m,none⟩=some u/\w.frozen? ⟨g,j*e.wd+m,none⟩=false)/\(∀ b∈ib,b∈bl)/\g∈bl/\(bl.Nodup->g ∉ ib/\ib.Nodup):=by
 obtain⟨d,A,r,l,rfl⟩:=h;have z:j<xs.length:=(List.getElem?_eq_some_iff.1 hx).1;have o:d[j]?=some d[j]:=yy (by omega);have a:=Kd A r;have B:n=xs.length:=by
  rcases l.2 with ⟨p,D⟩ |⟨C,q,v,p,_⟩
  ·cases p
  ·injection p
 subst B;refine⟨d[j].1,d[j].2,r j _ x o hx,?_,?_,?_,?_⟩
 ·intro m u s;have k:m<e.wd:=by
   have:=(List.getElem?_eq_some_iff.1 s).1
   rwa [a _ (yt (by omega))]at this
  have i:j*e.wd+m<xs.length*e.wd:=by
   have:(j+1)*e.wd<=xs.length*e.wd:=Nat.mul_le_mul_right _ z;rw[Nat.add_mul]at this;omega
  refine⟨?_,l.frozenAt _⟩;rw[l.cellAt _ i,DA a o m k];exact s
 ·intro b y;rw[List.mem_append];exact .inr (List.mem_flatMap.2 ⟨_,yt (by omega),y⟩)
 ·simp[Value.ownBlock]
 ·intro f;rw[List.nodup_append]at f;refine⟨fun hg=>f.2.2 g (by simp[Value.ownBlock]) g (List.mem_flatMap.2 ⟨_,yt (by omega),hg⟩) rfl,?_⟩;exact DC f.2.1 o
theorem Zr.put {g cap n:Nat} (h:Zr e w (.slice (some ⟨g,0,none⟩) n cap) xs bl) (hd:bl.Nodup) {j:Nat} {x:α} (hx:xs[j]?=some x) (m:Nat) (hm:m<e.wd) (u:Value) (x':α)
  (hE:∀ w' vs ib,e.E w' vs x ib->e.E w' (vs.set m u) x' ib):Zr e (w.setCell ⟨g,j*e.wd+m,none⟩ u) (.slice (some ⟨g,0,none⟩) n cap) (xs.set j x') bl:=by
 obtain⟨d,z,f,A,rfl⟩:=h;have G:j<xs.length:=(List.getElem?_eq_some_iff.1 hx).1;have k:d[j]?=some d[j]:=yy (by omega);have r:=Kd z f;have D:n=xs.length:=by
  rcases A.2 with ⟨q,F⟩ |⟨E,s,B,q,_⟩
  ·cases q
  ·injection q
 subst D;rw[List.nodup_append]at hd;have C:∀ p∈d,g ∉ p.2:=fun p k hgp=>hd.2.2 g (by simp[Value.ownBlock]) g (List.mem_flatMap.2 ⟨p,k,hgp⟩) rfl;have v:∀ p∈d,Kp p.2 w (w.setCell ⟨g,j*e.wd+m,none⟩ u):=fun p k b hb=>Below.heap_setCell _ _ _ _ fun he=>C p k (by subst he;exact hb);refine⟨d.set j (d[j].1.set m u,d[j].2),by simp[z],?_,?_,?_⟩
 ·intro i p y a l;by_cases o:i=j
  ·subst o;rw[List.getElem?_set_self (by omega)]at a l
   cases a;cases l;exact hE _ _ _ (e.keep (f i _ x k hx) (v d[i] (yt _)))
  ·rw[List.getElem?_set_ne (by omega)]at a l;exact e.keep (f i p y a l) (v _ (List.mem_of_getElem? a))
 ·rw[List.length_set,AQ r k m hm u];exact (A.stored (j*e.wd+m) u).1
 ·rw[AR k]
theorem Zr.inner{g cap n:Nat}(h:Zr e w (.slice (some ⟨g,0,none⟩) n cap) xs bl)(hd:bl.Nodup){j:Nat}{x:α}(hx:xs[j]?=some x):
  ∃ vs ib,e.E w vs x ib/\(∀ m u,vs[m]?=some u->w.cell? ⟨g,j*e.wd+m,none⟩=some u/\w.frozen? ⟨g,j*e.wd+m,none⟩=false)/\(∀ b∈ib,b∈bl)/\g∈bl/\ib.Nodup /\
   ∀ w' x',Fr ib w w'->e.E w' vs x' ib->Zr e w' (.slice (some ⟨g,0,none⟩) n cap) (xs.set j x') bl:=by
 have f:=h.lt;obtain⟨l,F,A,v,rfl⟩:=h;have J:j<xs.length:=(List.getElem?_eq_some_iff.1 hx).1;have o:l[j]?=some l[j]:=yy (by omega);have s:=Kd F A;have K:n=xs.length:=by
  rcases v.2 with ⟨D,M⟩ |⟨L,E,H,D,_⟩
  ·cases D
  ·injection D
 subst K;have d:=hd;rw[List.nodup_append]at d;have k:∀ p∈l,∀ b∈p.2,b∈(Value.slice (some ⟨g,0,none⟩) xs.length cap).ownBlock.toList++l.flatMap (·.2):=fun p o b hb=>by
  rw[List.mem_append];exact .inr (List.mem_flatMap.2 ⟨p,o,hb⟩)
 refine⟨l[j].1,l[j].2,A j _ x o hx,?_,k _ (yt _),?_,DC d.2.1 o,?_⟩
 ·intro m u G;have C:m<e.wd:=by
   have:=(List.getElem?_eq_some_iff.1 G).1
   rwa [s _ (yt (by omega))]at this
  have f:j*e.wd+m<xs.length*e.wd:=by
   have:(j+1)*e.wd<=xs.length*e.wd:=Nat.mul_le_mul_right _ J;rw[Nat.add_mul]at this;omega
  refine⟨?_,v.frozenAt _⟩;rw[v.cellAt _ f,DA s o m C];exact G
 ·simp[Value.ownBlock]
 ·intro w' x' q B;have I:g ∉ l[j].2:=fun hgp=>d.2.2 g (by simp[Value.ownBlock]) g (List.mem_flatMap.2 ⟨_,yt (by omega),hgp⟩) rfl;refine⟨l,by simp[F],?_,?_,rfl⟩
  ·intro i p y a z;by_cases r:i=j
   ·subst r;rw[List.getElem?_set_self (by omega)]at z;rw[o]at a
    cases a;cases z;exact B
   ·rw[List.getElem?_set_ne (by omega)]at z;exact e.keep (A i p y a z) (q.kp (fun b hb=>f b (k p (List.mem_of_getElem? a) b hb)) (AU d.2.1 a o r))
  ·rw[List.length_set];exact Np v (q.kp (fun b hb=>f b (by rw[List.mem_append];exact .inl hb)) (fun b hb=>by simp[Value.ownBlock]at hb;rw[hb];exact I))
theorem Zr.snoc (h:Zr e w v xs bl) {v':Value} {x:α} {vs:List Value} {ib cb:List Nat} (hc:bl=v.ownBlock.toList++cb) (hk:Kp cb w w')
  (ho:∀ cs,w.ownsRow 0 e.T e.wd v xs.length cs->w'.ownsRow 0 e.T e.wd v' (xs.length+1) (cs++vs)) (hE:e.E w' vs x ib):
  Zr e w' v' (xs++[x]) (v'.ownBlock.toList++(cb++ib)):=by
 obtain⟨n,m,g,k,i⟩:=h;rw[i]at hc;have d:n.flatMap (·.2)=cb:=List.append_cancel_left hc;refine⟨n++[(vs,ib)],by simp[m],?_,?_,?_⟩
 ·intro j p y a f;by_cases o:j<xs.length
  ·rw[List.getElem?_append_left (by omega)]at a f;exact e.keep (g j p y a f) fun b i=>hk b (by rw[← d];exact List.mem_flatMap.2 ⟨p,List.mem_of_getElem? a,i⟩)
  ·have l:=(List.getElem?_eq_some_iff.1 f).1;rw[yh,List.length_singleton]at l;have:j=xs.length:=by omega
   subst this;rw[← m]at a;simp at a f;subst a;subst f;exact hE
 ·have:=ho _ k;rw[List.flatMap_append,yh];simpa using this
 ·rw[List.flatMap_append,d];simp
theorem Zr.split(h:Zr e w v xs bl):∃ cb,bl=v.ownBlock.toList++cb:=by
 obtain⟨a,_,_,_,rfl⟩:=h;exact⟨_,rfl⟩
theorem Zr.own(h:Zr e w v xs bl):∃ cs,w.ownsRow 0 e.T e.wd v xs.length cs:=by
 obtain⟨b,_,_,a,_⟩:=h;exact⟨_,a⟩
end
structure Um (α:Type) where
 wd:Nat
 R:Wo->List Value->α->Prop
 len:∀ {w vs x},R w vs x->vs.length=wd
 keep:∀ {w w' vs x},R w vs x->Bw w w'->R w' vs x
def VI{α:Type}(e:Um α)(w:Wo)(v:Value)(xs:List α):Prop:=
 xs.length<=maxLen/\∃ a cap,v= .slice a xs.length cap/\∀ (j:Nat) (x:α),xs[j]?=some x->∃ b o,a=some ⟨b,o,none⟩/\∃ vs,e.R w vs x/\∀ (m:Nat) (u:Value),vs[m]?=some u->w.cell? ⟨b,o+(j*e.wd+m),none⟩=some u
theorem VI.below{α:Type}{e:Um α}{w w':Wo}{v:Value}{xs:List α}(h:VI e w v xs)(hb:Bw w w'):VI e w' v xs:=by
 obtain⟨k,a,d,l,h⟩:=h;refine⟨k,a,d,l,fun j x hx=>?_⟩;obtain⟨b,o,i,n,g,f⟩:=h j x hx;exact⟨b,o,i,n,e.keep g hb,fun m u hu=>(hb.cell (p:=⟨b,o+(j*e.wd+m),none⟩) (yK _ _ (f m u hu))).trans (f m u hu)⟩
def XN:Um Bs:={wd:=1,R:=fun _ vs s=>vs=[.string s]/\s.size<=maxLen,len:=fun h=>by rw[h.1];rfl,keep:=fun h _=>h}
def AV:J6 Bs:={T:=9,wd:=1,E:=fun _ vs s bl=>vs=[.string s]/\bl=[],len:=fun h=>by rw[h.1];rfl,lt:=fun h b hb=>by rw[h.2]at hb;simp at hb,keep:=fun h _=>h}
abbrev Ke(w:Wo)(v:Value)(ss:List Bs)(bl:List Nat):Prop:=Zr AV w v ss bl
theorem DE{w:Wo}{v:Value}{ss:List Bs}{bl:List Nat}:Ke w v ss bl↔w.ownsRow 0 9 1 v ss.length (ss.map .string)/\bl=v.ownBlock.toList:=by
 constructor
 ·rintro⟨m,k,h,b,rfl⟩;have g:m=ss.map fun s=>([.string s],[]):=by
   apply List.ext_getElem?;intro j;by_cases i:j<ss.length
   ·obtain⟨g,n⟩:=h j m[j] ss[j] (yy (by omega)) (yy i);rw[yy (by omega),List.getElem?_map,yy i];exact congrArg some (Prod.ext g n)
   ·rw[List.getElem?_eq_none (by omega),List.getElem?_eq_none (by rw[yl];omega)]
  subst g;have d:((ss.map fun s=>(([.string s],[]):List Value×List Nat)).flatMap (·.1))=ss.map .string:=by
   clear k h b;induction ss with
   | nil=>rfl
   | cons a r ih=>rw[yi,List.flatMap_cons,ih];rfl
  have f:((ss.map fun s=>(([.string s],[]):List Value×List Nat)).flatMap (·.2))=[]:=by
   clear k h b d;induction ss with
   | nil=>rfl
   | cons a r ih=>rw[yi,List.flatMap_cons,ih];rfl
  rw[d]at b;rw[f];exact⟨b,by simp⟩
 ·rintro⟨b,rfl⟩;refine⟨ss.map fun s=>([.string s],[]),by simp,?_,?_,?_⟩
  ·intro j p x l hx;rw[List.getElem?_map,hx]at l
   cases l;exact⟨rfl,rfl⟩
  ·have d:((ss.map fun s=>(([.string s],[]):List Value×List Nat)).flatMap (·.1))=ss.map .string:=by
    clear b;induction ss with
    | nil=>rfl
    | cons a r ih=>rw[yi,List.flatMap_cons,ih];rfl
   rw[d];exact b
  ·have f:((ss.map fun s=>(([.string s],[]):List Value×List Nat)).flatMap (·.2))=[]:=by
    clear b;induction ss with
    | nil=>rfl
    | cons a r ih=>rw[yi,List.flatMap_cons,ih];rfl
   rw[f];simp
theorem Ke.ss{w:Wo}{v:Value}{ss:List Bs}{bl:List Nat}(h:Ke w v ss bl):∃ a g cap,v= .slice a ss.length cap/\SS w a g 0 ss:=by
 obtain⟨d,_⟩:=DE.1 h;rcases d.2 with ⟨b,i⟩ |⟨g,cap,f,b,k,l,_⟩
 ·exact⟨none,0,0,by rw[b,i],⟨fun h=>by omega,fun j hj=>by omega⟩⟩
 ·refine⟨some ⟨g,0,none⟩,g,cap,b,⟨fun _=>rfl,fun j hj=>?_⟩⟩;subst b;rw[Nat.zero_add,d.cellAt j (by omega)];simp[hj]
theorem RStr.ss{w:Wo}{v:Value}{ss:List Bs}(h:VI XN w v ss):∃ a b o cap,v= .slice a ss.length cap/\SS w a b o ss/\ss.length<=maxLen/\∀ j,(ss.getD j ByteArray.empty).size<=maxLen:=by
 obtain⟨m,a,cap,n,h⟩:=h;have g:∀ j,(ss.getD j ByteArray.empty).size<=maxLen:=by
  intro j;by_cases d:j<ss.length
  ·obtain⟨_,_,_,_,⟨_,i⟩,_⟩:=h j ss[j] (yy d);simpa [List.getD,d]using i
  ·simp[List.getD,d]
 by_cases k:0<ss.length
 ·obtain⟨b,o,l,_⟩:=h 0 ss[0] (yy k);refine⟨a,b,o,cap,n,⟨fun _=>l,fun j d=>?_⟩,m,g⟩;obtain⟨q,r,f,s,⟨i,_⟩,p⟩:=h j ss[j] (yy d);rw[l]at f;cases f;have:=p 0 (.string ss[j]) (by rw[i];rfl);simp[XN]at this;simpa [List.getD,d]using this
 ·exact⟨a,0,0,cap,n,⟨fun h=>absurd h k,fun j d=>by omega⟩,m,g⟩
structure DF where
 ver:Int
 ptrs:List Bs
 over:Bool
structure DH where
 client:Int
 ptr:Bs
 cap:Int
 since:Int
 closed:Bool
 queue:List DF
structure DI where
 ver:Int
 ptrs:List Bs
structure Hb where
 watches:List DH
 waiting:List DI
def AW:Um DF where
 wd:=3
 R:=fun w vs m=>∃ q,vs=[.int .i64 m.ver,q,.bool m.over]/\VI XN w q m.ptrs
 len:=fun h=>by obtain⟨q,h,_⟩:=h;rw[h];rfl
 keep:=fun h hb=>by obtain⟨q,h1,h2⟩:=h;exact⟨q,h1,h2.below hb⟩
def AX:Um DI where
 wd:=2
 R:=fun w vs m=>∃ q,vs=[.int .i64 m.ver,q]/\VI XN w q m.ptrs
 len:=fun h=>by obtain⟨q,h,_⟩:=h;rw[h];rfl
 keep:=fun h hb=>by obtain⟨q,h1,h2⟩:=h;exact⟨q,h1,h2.below hb⟩
def AY:Um DH where
 wd:=6
 R:=fun w vs m=>∃ q,vs=[.int .i64 m.client,.string m.ptr,.int .i64 m.cap,.int .i64 m.since,.bool m.closed,q]/\m.ptr.size<=maxLen/\VI AW w q m.queue
 len:=fun h=>by obtain⟨q,h,_⟩:=h;rw[h];rfl
 keep:=fun h hb=>by obtain⟨q,h1,h0,h2⟩:=h;exact⟨q,h1,h0,h2.below hb⟩
def Nq(w:Wo)(v:Value)(h:Hb):Prop:=∃ p q,v= .agg #[p,q]/\VI AY w p h.watches/\VI AX w q h.waiting
theorem Nq.below{w w':Wo}{v:Value}{h:Hb}(hr:Nq w v h)(hb:Bw w w'):Nq w' v h:=by
 obtain⟨p,q,d,a,b⟩:=hr;exact⟨p,q,d,a.below hb,b.below hb⟩
theorem zY(w:Wo)(o:Obj):Bw w (w.alloc o):=(yI _ _).alloc (ye _) o
theorem AZ(l:List Nat)(k:Nat):(l.take k).sum<=l.sum:=by
 have h:=List.take_append_drop k l;have:(l.take k++l.drop k).sum=l.sum:=by rw[h]
 rw[List.sum_append]at this;omega
theorem A4{α:Type}(f:α->Nat)(l:List α)(k:Nat)(x:α)(h:l[k]?=some x):((l.take (k+1)).map f).sum=((l.take k).map f).sum+f x:=by
 rw[List.take_add_one,h];simp
theorem DJ(s:Bs)(w:Wo)(hsz:s.size<=1048576):
  Calls Tryz.prog 86 #[.string s] w fun e w'=>e= .returned (.bool (zK s.data.toList).isSome)/\Bw w w':=by
 have a:=ze (Gl s w hsz);obtain⟨z,b⟩:∃ z,(zK s.data.toList).isSome=z:=⟨_,rfl⟩;rw[b]at a ⊢;clear b;go_in;go_wp2_with fail;refine (uh a).mono ?_;rintro e g ⟨v,rfl,f,d⟩;clear a f
 cases z
 all_goals (
  go_wp2;go_ret;exact⟨rfl,d⟩)
theorem Nr(b:Nat)(w:Wo)(hb:b<256):
  Calls Tryz.prog 204 #[.int .u8 b] w fun e w'=>e= .returned (.bool (zP b))/\w=w':=by
 by_cases h:48<=b
 ·have a:Hid (zP b=decide ((b:Int)<=57)):=by
   show _=_
   unfold zP;rw[yj h,Bool.true_and];apply decide_eq_decide.2;omega
  have d:(48:Int)<=(b:Int):=by omega
  go_in;go_wp2;go_ret;exact⟨by rw[uh a];rfl,rfl⟩
 ·have a:Hid (zP b=false):=by
   show _=_
   unfold zP;rw[yk h,Bool.false_and]
  have d:¬ (48:Int)<=(b:Int):=by omega
  go_in;go_wp2;go_ret;exact⟨by rw[uh a];rfl,rfl⟩
def Un(most:Nat)(t:List UInt8):Prop:=1<=t.length/\t.length<=most/\∀ c∈t,zP c.toNat=true
instance (most : Nat) (t : List UInt8) : Decidable (Un most t) := by unfold Un; infer_instance
def YY(most:Nat)(t:List UInt8):Value:=if Un most t then .tuple #[.int .i64 (qE t:Int),.bool true]else .tuple #[.int .i64 0,.bool false]
theorem A5(s:Bs)(most:Nat)(w:Wo)(hs:s.size<=1048576)(hm:most<=9):
  Calls Tryz.prog 195 #[.string s,.int .i64 (most:Int)] w fun e w'=>e= .returned (YY most s.data.toList)/\w=w':=by
 have b:¬ Un most s.data.toList->YY most s.data.toList= .tuple #[.int .i64 0,.bool false]:=fun h=>by unfold YY;rw[yf h]
 have n:=Zg s;by_cases B:s.size<1
 ·have z:=ze (b (fun h=>by have:=h.1;omega));have E:s=⟨#[]⟩:=by
   have:s.data.toList=[]:=yO (by omega);obtain⟨⟨l⟩⟩:=s;simp at this;subst this;rfl
  subst E;clear b B n hs;go_in;go_wp2;go_ret2;exact⟨by rw[uh z];rfl,rfl⟩
 ·have P:s.toList.isEmpty=false:=by
   rw[ByteArray.toList_eq,List.isEmpty_eq_false_iff];intro e;rw[e]at n;simp at n;omega
  by_cases F:most<s.size
  ·have z:=ze (b (fun h=>by have:=h.2.1;omega));have K:(most:Int)<(s.size:Int):=by omega
   clear b B F;go_in;go_wp2;go_ret2;exact⟨by rw[uh z];rfl,rfl⟩
  ·have K:¬ (most:Int)<(s.size:Int):=by omega
   have M:0<s.size:=by omega
   have N:(0:Int)<(s.size:Int):=by omega
   have x:Hid (∀ (k:Nat) (r:k<s.size) (w:Wo),Calls Tryz.prog 204 #[.int .u8 (s[k].toNat:Int)] w (Rk (.bool (zP s[k].toNat)) w)):=fun k r w=>Nr s[k].toNat w (UInt8.toNat_lt _);have f:Hid (∀ k (r:k<s.size),zP s[k].toNat=false->YY most s.data.toList= .tuple #[.int .i64 0,.bool false]):=fun k r hd=>b (fun h=>by
    have:=h.2.2 s[k] (by rw[← Dk s k r];exact yt _);rw[hd]at this;cases this)
   have d:Hid ((∀ k (r:k<s.size),zP s[k].toNat=true)->YY most s.data.toList= .tuple #[.int .i64 (qE s.data.toList:Int),.bool true]):=fun g=>by
    have C:Un most s.data.toList:=⟨by omega,by omega,fun c hc=>by
     obtain⟨j,m,rfl⟩:=List.getElem_of_mem hc;exact g j (by omega)⟩
    unfold YY;rw[yg C]
   have H:s.size<=9:=by omega
   clear b B F;go_in;go_wp2;go_loopw [6,18] (fun vv iv wr=>∃ k:Nat,k<=s.size/\iv= .int .i64 (k:Int)/\vv= .int .i64 ((qE (s.data.toList.take k):Nat):Int)/\(∀ j (m:j<s.size),j<k->zP s[j].toNat=true)/\w=wr) (fun _ iv _=>s.size - (intOf iv).toNat)
   case atStart=>exact⟨0,yu _,rfl,rfl,fun j _ m=>by omega,rfl⟩
   case round=>
    obtain⟨k,r,rfl,rfl,g,rfl⟩:=hrel;have a:=ze g;clear g;by_cases p:k<s.size
    ·have G:(k:Int)<(s.size:Int):=by omega
     have i:=ze (uh x k p w);have q:s.data.toList.take (k+1)=s.data.toList.take k++[s[k]]:=Ua s k p;have u:Hid (qE (s.data.toList.take (k+1))=qE (s.data.toList.take k)*10+(s[k].toNat - 48)):=by show _=_;rw[q,Ui]
     have o:qE (s.data.toList.take k)<1000000000∨¬ ∀ c∈s.data.toList.take k,zP c.toNat=true:=by
      rcases Dl k (s.data.toList.take k) (by rw[ym];omega)with h | h
      ·left;have:10 ^ k<=10 ^ 9:=Nat.pow_le_pow_right (by omega) (by omega);omega
      ·exact .inr h
     have v:qE (s.data.toList.take k)<1000000000:=o.elim id fun h=>absurd (fun c hc=>by
      obtain⟨j,m,rfl⟩:=List.getElem_of_mem hc;rw[ym]at m;rw[List.getElem_take];exact uh a j (by omega) (by omega)) h
     cases hd:zP s[k].toNat with
     | false=>
      have A:=ze (uh f k p hd);rw[hd]at i;clear hd u q o v a f d x;go_wp2_with fail;refine (uh i).mono ?_;rintro e L ⟨rfl,rfl⟩;clear i;go_wp2;go_ret2;exact⟨by rw[uh A];rfl,rfl⟩
     | true=>
      have O:=Qx.1 hd;have y:Hid (∀ j (m:j<s.size),j<k+1->zP s[j].toNat=true):=fun j m hjk=>by
       by_cases e:j=k
       ·subst e;exact hd
       ·exact uh a j m (by omega)
      rw[hd]at i;have I:(48:Int)<=(s[k].toNat:Int):=by omega
      have J:(s[k].toNat:Int)<=57:=by omega
      generalize qE (s.data.toList.take k)=D at *;clear hd q o a f d x;go_wp2_with fail;refine (uh i).mono ?_;rintro e L ⟨rfl,rfl⟩;clear i;go_wp2;go_roundw
      case rel=>exact⟨k+1,by omega,by go_num,by rw[uh u];go_num,uh y,trivial⟩
      case measure=>simp[intOf];omega
    ·have e:s.data.toList.take k=s.data.toList:=yr (by omega);rw[e];have A:=ze (uh d (fun j m=>uh a j m (by omega)));generalize qE s.data.toList=D at *;clear a f d x e;go_wp2;go_ret2;exact⟨by rw[uh A];rfl,rfl⟩
theorem A6(most:Nat)(t:List UInt8):∃ (z:Int) (b:Bool),YY most t= .tuple #[.int .i64 z,.bool b]:=by
 unfold YY;split
 ·exact⟨_,_,rfl⟩
 ·exact⟨_,_,rfl⟩
def Gm(w:Wo):Prop:=Lib.Utf8Tabs 1 2 w
theorem Gm.below{w w':Wo}(h:Gm w)(hb:Bw w w'):Gm w':=by
 refine⟨fun c hc=>?_,fun i hi=>?_⟩
 ·have:=h.1 c hc;exact (hb.cell (yK _ _ this)).trans this
 ·have a:=h.2 i hi;exact⟨(hb.cell (yK _ _ a.1)).trans a.1,(hb.cell (yK _ _ a.2)).trans a.2⟩
def qL(B:Nat)(w:Wo):Prop:=∃ w0:Wo,w0.heap.size<=B/\Gm w0/\Bw w0 w
theorem qL.of{w:Wo}(h:Gm w):qL w.heap.size w:=⟨w,ye _,h,yI _ _⟩
theorem qL.tabs{B:Nat}{w:Wo}(h:qL B w):Gm w:=by
 obtain⟨a,_,t,b⟩:=h;exact t.below b
theorem qL.next{B B':Nat}{w w':Wo}(h:qL B w)(hb:Below B' w w')(hB:B<=B'):qL B w':=by
 obtain⟨d,a,t,b⟩:=h;exact⟨d,a,t,b.trans (hb.mono (by omega))⟩
theorem Ns{w:Wo}{B e:Nat}{v:Value}{n:Nat}{xs:List Value}(h:w.ownsRow B e 1 v n xs):∀ k,v.ownBlock=some k->∃ cs fz,w.heap[k]?=some (.cells cs e fz):=by
 intro k a;rcases h.2 with ⟨rfl,_⟩ |⟨g,b,d,rfl,_,f,_⟩
 ·simp[Value.ownBlock]at a
 ·simp only[Value.ownBlock,Option.some.injEq]at a;subst a;exact⟨_,_,f⟩
theorem Nt(B b:Nat)(bs:List Value)(w:Wo)(h:Lib.IsBuilder 149 5 B b bs w):
  Calls Tryz.prog 219 #[.pointer (some ⟨b,0,none⟩)] w fun e w'=>e= .returned (.tuple #[])/\(Lib.BuilderAt 149 5 B b (.pointer (some ⟨b,0,none⟩)) bs w'/\Below B w w'/\Lib.OthersKept 5 (some b) w w'):=by
 rcases h with h | h
 ·refine (Ds b w h.cell0 h.shape h.frozen0).mono ?_;rintro e w' ⟨rfl,rfl⟩;exact⟨rfl,h.used _,(yI B w).setCell (p:=⟨b,0,none⟩) h.1 _,(Lib.OthersKept.refl _ _ w).setCell ⟨b,0,none⟩ rfl _⟩
 ·refine (Dr b w h.cell0).mono ?_;rintro e w' ⟨rfl,rfl⟩;exact⟨rfl,h,yI B _,Lib.OthersKept.refl _ _ _⟩
theorem Uo(B b:Nat)(bs:List Value)(c:Int)(w:Wo)(h:Lib.IsBuilder 149 5 B b bs w)(hlen:bs.length+1<=140737488355328)(hBw:B<=w.heap.size):
  Calls Tryz.prog 186 #[.pointer (some ⟨b,0,none⟩),.int .u8 c] w fun e w'=>e= .returned .nilIface/\(Lib.BuilderAt 149 5 B b (.pointer (some ⟨b,0,none⟩)) (bs++[.int .u8 c]) w'/\Below B w w'/\Lib.OthersKept 5 (some b) w w'):=by
 obtain⟨K,I,A,C,D⟩:=info_parts infoByte;go_in;go_wp2_with (go_at_call 219;refine (Nt B b bs _ h).mono ?_);rintro e o ⟨rfl,H,l,x⟩;obtain⟨E,v,n,d,z⟩:=H;have c0:o.cell? ⟨b,0,none⟩=some (.pointer (some ⟨b,0,none⟩)):=by rw[yG n];rfl
 have c1:o.cell? ⟨b,1,none⟩=some v:=by rw[yG n];rfl
 go_wp2_with (at_builtin;refine wpList_append_own _ rfl _ _ 22 rfl B 5 K (.int .u8 0) 1 1 Tryz.underlying22 I A C D rfl (by decide) _ _ _ rfl (d.alloc _) ⟨o.heap.size,0,none⟩ 1 1 [.int .u8 c] rfl rfl ?c1 ?c2 ?c3 ?c4 ?c5 ?_)
 case c1=>
  intro j u q
  match j,q with
  | 0,q=>simp at q;subst q;simp[Addr.add]
 case c2=>intro u F;simp at F;subst F;rfl
 case c3=>unfold maxLen;omega
 case c4=>omega
 case c5=>have:=l.size;simp;omega
 intro L r f a _;have y:b<o.heap.size:=by
  rcases Nat.lt_or_ge b o.heap.size with s | s
  ·exact s
  ·simp[Array.getElem?_eq_none s]at n
 have m:r.heap[b]?=some (.cells #[.pointer (some ⟨b,0,none⟩),v] 149 (0,0)):=by
  rw[a.block b (by simp;omega) (fun e=>z e.symm),Lib.alloc_old o _ b y];exact n
 have M:r.cell? ⟨b,0,none⟩=some (.pointer (some ⟨b,0,none⟩)):=by rw[yG m];rfl
 have N:r.cell? ⟨b,1,none⟩=some v:=by rw[yG m];rfl
 have O:r.frozen? ⟨b,1,none⟩=false:=yJ m 1;obtain⟨g,i,rfl⟩:∃ g i,L= .slice (some ⟨g,0,none⟩) (bs.length+1) i:=by
  rcases f.2 with ⟨_,P⟩ |⟨g,i,G,J,_⟩
  ·omega
  ·exact⟨g,i,J⟩
 go_wp2;go_ret;refine⟨rfl,?_,?_,((x.alloc _).grown a (Ns (d.alloc _))).setCell ⟨b,1,none⟩ rfl _⟩
 ·exact Lib.BuilderAt.put (T:=149) (e:=5) E m (bs':=bs++[.int .u8 c]) (by simpa using f) (by decide)
 ·exact ((l.alloc (by have:=l.size;omega) _).grown a (by have:=l.size;simp;omega) (fun k hk=>(d.lt k hk).1)).setCell (p:=⟨b,1,none⟩) E _
theorem YZ(B b:Nat)(bs:List Value)(s:Bs)(w:Wo)(h:Lib.IsBuilder 149 5 B b bs w)(hlen:bs.length+s.size<=140737488355328)(hBw:B<=w.heap.size):
  Calls Tryz.prog 194 #[.pointer (some ⟨b,0,none⟩),.string s] w fun e w'=>e= .returned (.tuple #[.int .i64 s.size,.nilIface])/\(Lib.BuilderAt 149 5 B b (.pointer (some ⟨b,0,none⟩)) (bs++Lib.strCells s) w'/\Below B w w'/\Lib.OthersKept 5 (some b) w w'):=by
 obtain⟨J,I,z,A,C⟩:=info_parts infoByte;go_in;go_wp2_with (go_at_call 219;refine (Nt B b bs _ h).mono ?_);rintro e n ⟨rfl,H,m,r⟩;obtain⟨E,v,j,d,x⟩:=H;have c0:n.cell? ⟨b,0,none⟩=some (.pointer (some ⟨b,0,none⟩)):=by rw[yG j];rfl
 have c1:n.cell? ⟨b,1,none⟩=some v:=by rw[yG j];rfl
 go_wp2_with (at_builtin;refine Lib.wpList_append_own_string _ rfl _ _ 22 9 rfl B 5 J Tryz.underlying22 Tryz.underlying9 I z A C _ _ _ rfl d s rfl ?c3 ?c4 ?c5 ?_)
 case c3=>unfold maxLen;omega
 case c4=>omega
 case c5=>have:=m.size;omega
 intro K o f a _;have u:b<n.heap.size:=by
  rcases Nat.lt_or_ge b n.heap.size with q | q
  ·exact q
  ·simp[Array.getElem?_eq_none q]at j
 have i:o.heap[b]?=some (.cells #[.pointer (some ⟨b,0,none⟩),v] 149 (0,0)):=by
  rw[a.block b u (fun e=>x e.symm)];exact j
 have L:o.cell? ⟨b,0,none⟩=some (.pointer (some ⟨b,0,none⟩)):=by rw[yG i];rfl
 have M:o.cell? ⟨b,1,none⟩=some v:=by rw[yG i];rfl
 have N:o.frozen? ⟨b,1,none⟩=false:=yJ i 1;obtain⟨D,F,l,rfl⟩:∃ D F l,K= .slice D F l:=by
  rcases f.2 with ⟨y,_⟩ |⟨g,l,G,y,_⟩
  ·exact⟨_,_,_,y⟩
  ·exact⟨_,_,_,y⟩
 go_wp2;go_ret2;refine⟨rfl,?_,?_,(r.grown a (Ns d)).setCell ⟨b,1,none⟩ rfl _⟩
 ·exact Lib.BuilderAt.put (T:=149) (e:=5) E i (bs':=bs++Lib.strCells s) (by simpa [Lib.strCells_length]using f) (by decide)
 ·exact (m.grown a (by have:=m.size;omega) (fun k hk=>(d.lt k hk).1)).setCell (p:=⟨b,1,none⟩) E _
theorem A9(B b:Nat)(l:List UInt8)(s:Bs)(w:Wo)(h:zU B b l w)(hB:B<=w.heap.size)(hs:s.size<=1048576)(hl:l.length<=2097152):
  Calls Tryz.prog 155 #[.pointer (some ⟨b,0,none⟩),.string s] w fun e w'=>e= .returned (.tuple #[])/\zU B b (l++47 :: zT s.data.toList) w'/\Below B w w':=by
 have E:Hid ((Lib.byteCells l).length=l.length):=yL l;go_in;go_wp2_with (go_at_call 186;refine (Ka B b _ 47 _ h (by rw[uh E];omega) hB).mono ?_);rintro e J ⟨rfl,C,r⟩;have p:=zU.byte (c:=47) rfl C;clear C h;go_wp2;go_loopw [9] (fun i wr=>∃ j:Nat,j<=s.size/\i= .int .i64 j/\zU B b (l++47 :: zT (s.data.toList.take j)) wr/\Below B w wr) (fun i _=>s.size - (intOf i).toNat)
 case atStart=>exact⟨0,yu _,rfl,by simpa [zT]using p,r⟩
 case round=>
  obtain⟨j,I,rfl,o,v⟩:=hrel;have k:B<=wr.heap.size:=by have:=v.size;omega
  by_cases z:j<s.size
  ·have A:(Lib.byteCells (l++47 :: zT (s.data.toList.take j))).length<=l.length+1+2*j:=by
    have:=Vg (s.data.toList.take j);have H:(s.data.toList.take j).length=j:=by rw[ym,Zg];omega
    rw[yL,yh,yp];omega
   have x:Hid (l++47 :: zT (s.data.toList.take (j+1))=(l++47 :: zT (s.data.toList.take j))++QV s[j]):=by
    show _=_
    rw[Ua s j z,S9];simp
   generalize l++47 :: zT (s.data.toList.take j)=q at *;clear p r;by_cases a:(s[j].toNat:Int)=126
   ·have F:((s[j].toNat:Int) ==126)=true:=by simpa using a
    have u:=ze (OY a);clear a;go_wp2_with (go_at_call 194;refine (Du B b _ _ _ o (by show _+2<=_;omega) k).mono ?_);rintro e D ⟨rfl,n,g⟩;have f:=zU.str (m:=[126,48]) rfl n;clear n o A;go_wp2;go_roundw
    case rel=>exact⟨j+1,by omega,by go_num,by rw[uh x,uh u];exact f,v.trans g⟩
    case measure=>simp[intOf];omega
   ·have F:((s[j].toNat:Int) ==126)=false:=by simpa using a
    by_cases d:(s[j].toNat:Int)=47
    ·have G:((s[j].toNat:Int) ==47)=true:=by simpa using d
     have u:=ze (OZ d);clear a d;go_wp2_with (go_at_call 194;refine (Du B b _ _ _ o (by show _+2<=_;omega) k).mono ?_);rintro e D ⟨rfl,n,g⟩;have f:=zU.str (m:=[126,49]) rfl n;clear n o A;go_wp2;go_roundw
     case rel=>exact⟨j+1,by omega,by go_num,by rw[uh x,uh u];exact f,v.trans g⟩
     case measure=>simp[intOf];omega
    ·have G:((s[j].toNat:Int) ==47)=false:=by simpa using d
     have u:=ze (U7 a d);clear a d;go_wp2_with (go_at_call 186;refine (Ka B b _ _ _ o (by omega) k).mono ?_);rintro e D ⟨rfl,n,g⟩;have f:=zU.byte (c:=s[j]) rfl n;clear n o A;go_wp2;go_roundw
     case rel=>exact⟨j+1,by omega,by go_num,by rw[uh x,uh u];exact f,v.trans g⟩
     case measure=>simp[intOf];omega
  ·have y:j=s.size:=by omega
   subst y;rw[XA]at o;clear p r;go_wp2;go_end0;exact⟨rfl,o,v⟩
theorem Nu(xa:Option Addr)(xb xo xc:Nat)(ss:List Bs)(w:Wo)(h:SS w xa xb xo ss)(hm:ss.length+qH ss<=1048576):
  Calls Tryz.prog 108 #[.slice xa ss.length xc] w fun e w'=>e= .returned (.string ⟨(ZC ss).toArray⟩)/\Bw w w':=by
 have a:=h.ad;have HC:=ze h.cell;clear h;have r:ss.length<=1048576:=by omega
 have o:=ze hm;clear hm;go_in;go_wp2;go_loopw [8] (fun i wr=>∃ k:Nat,k<=ss.length/\i= .int .i64 k/\zU w.heap.size w.heap.size (ZC (ss.take k)) wr/\Bw w wr) (fun i _=>ss.length - (intOf i).toNat)
 case atStart=>exact⟨0,yu _,rfl,Lib.fresh_isBuilder _ _ w,(yI _ _).alloc (ye _) _⟩
 case round=>
  obtain⟨k,B,rfl,j,l⟩:=hrel;have d:=l.size;by_cases b:k<ss.length
  ·have g:=uh HC k b;have A:=(l.cell (p:=⟨xb,xo+k,none⟩) (yK _ _ g)).trans g;obtain rfl:=a (by omega);have n:(ss.getD k ByteArray.empty).size<=1048576:=by have:=U6 b;have:=uh o;omega
   have m:(ZC (ss.take k)).length<=2097152:=by
    have x:=Db (ss.take k);have q:=U6 b;have y:=uh o;have z:(ss.take k).length=k:=by rw[ym];omega
    omega
   have u:Hid (ZC (ss.take (k+1))=ZC (ss.take k)++47 :: zT (ss.getD k ByteArray.empty).data.toList):=by
    show _=_;rw[Xz b,Da]
   clear a g;generalize ss.getD k ByteArray.empty=s at *;generalize ZC (ss.take k)=p at *;go_wp2_with (go_at_call 155;refine (A9 w.heap.size w.heap.size p s _ j d n m).mono ?_);rintro e v ⟨rfl,q,f⟩;clear j;go_wp2;go_roundw
   case rel=>exact⟨k+1,by omega,by go_num,by rw[uh u];exact q,l.trans f⟩
   case measure=>simp[intOf];omega
  ·have e:ss.take k=ss:=yr (by omega);rw[e]at j;have E:=ze e;clear a e;go_wp2_with (go_at_call 81;refine (Kb w.heap.size w.heap.size (ZC ss) _ j d).mono ?_);rintro e v ⟨rfl,f⟩;clear j;go_wp2;go_ret;exact⟨rfl,l.trans f⟩
theorem Ha {P:Program} (w:Wo) {base:Nat} {t ty e:TypeId} {i:TypeInfo} {z:Value} (ht:P.underlying t=some (.slice e)) (hi:P.info? e=some i) (hz:i.zero=some z)
  {v:Value} {n:Nat} {xs:List Value} (hown:w.ownsRow base e i.size v n xs) {a:Addr} {m c:Nat} {news:List Value} (hl:news.length=m*i.size) (hnews:∀ j u,news[j]?=some u->w.cell? (a.add j)=some u) (h1:∀ u∈news,u.oneCell'=true)
  (h0:0<m) (h63:n+m<=maxLen) (hbytes:(n+m)*i.bytes<=140737488355328) {v':Value} {w':Wo} (hr:(Builtin.append_ #[t,t] ty #[v,.slice (some a) m c]).run P w= .ok v' w'):
  v'.ownBlock=v.ownBlock∨v'.ownBlock=some w.heap.size:=by
 unfold maxLen at h63;rcases hown.2 with ⟨k,o⟩ |⟨g,d,f,k,_,l,_,_,h,_⟩
 ·subst k;subst o;have hx:=run_append_nil (P:=P) w t ty e i z ht hi hz a m c news hl hnews h0 (by omega) (by simp only[Nat.zero_add]at hbytes;omega);rw[hx]at hr;injection hr with hr1 _;subst hr1;exact .inr rfl
 ·subst k;by_cases b:n+m<=d
  ·have hx:=run_append_room (P:=P) w t ty e i ht hi g n d f l a m c news hl hnews h1 b (by rw[hl,h,← Nat.add_mul];exact Nat.mul_le_mul_right _ b);rw[hx]at hr;injection hr with hr1 _;subst hr1;exact .inl rfl
  ·have hx:=run_append_grow (P:=P) w t ty e i z ht hi hz ⟨g,0,none⟩ n d xs hown.1 (hown.cells (g:=g) rfl) a m c news hl hnews (by omega) (by omega) (growslice_fits (by omega) hbytes);rw[hx]at hr;injection hr with hr1 _;subst hr1;exact .inr rfl
theorem DK {e t:TypeId} (ht:Tryz.prog.underlying t=some (.slice e)) {z:Value} {bytes:Nat}
  (hinfo:(Tryz.prog.info? e).map (fun i=>(i.zero,i.size,i.bytes))=some (some z,1,bytes)) (hzs:z.cells.size=1) (hby:bytes<=100)
  {w:Wo} {ops:Array Oper} {rest:List Oper} {o:Oper} {a:Act} {Q:Exit->Act->Wo->Prop} (hg:o.guard=none) (s x:Operand)
  (ho:o.op= .call {callee:=.builtin .append,args:=#[s,x],argTypes:=#[t,t]}) {B:Nat} {v:Value} {xs:List Value} {n:Nat} (hs:a.eval s=v)
  (hown:w.ownsRow B e 1 v n xs) {y:Value} (hy:y.oneCell'=true) {g:Nat} (hx:a.eval x= .slice (some ⟨g,0,none⟩) 1 1)
  (hcell:w.cell? ⟨g,0,none⟩=some y) (hB:B<=w.heap.size) (hl:n<=40000000)
  (hK:∀ v' w',w'.ownsRow B e 1 v' (n+1) (xs++[y])->w.grownBy w' v.ownBlock->(v'.ownBlock=v.ownBlock∨v'.ownBlock=some w.heap.size)->wpList Tryz.prog ops Q rest (a.put o.dst v') w'):
  wpList Tryz.prog ops Q (o :: rest) a w:=by
 obtain⟨C,m,d,b,f⟩:=info_parts hinfo;have k:(n+1)*bytes<=(n+1)*100:=Nat.mul_le_mul_left _ hby
 have l:∀ (j:Nat) (u:Value),[y][j]?=some u->w.cell? ((⟨g,0,none⟩:Addr).add j)=some u:=fun j u hu=>by
  cases j with
  | zero=>simp at hu;subst hu;simpa [Addr.add]using hcell
  | succ j=>simp at hu
 have h:∀ u∈[y],u.oneCell'=true:=fun u hu=>by simp at hu;subst hu;exact hy
 obtain⟨v',w',p,q,r,_⟩:=run_append_own (P:=Tryz.prog) w B t o.type e C z 1 bytes ht m d b f hzs (by decide) v n xs hown ⟨g,0,none⟩ 1 1 [y] rfl l h (by unfold maxLen;omega) (by omega) hB;have A:=Ha (P:=Tryz.prog) w (z:=z) ht m d (by rw[b];exact hown) (by rw[b];rfl) l h (by omega) (by unfold maxLen;omega) (by rw[f];omega) p;exact Lib.wpList_append_run w hg s x t t ho v _ hs hx v' w' p (hK v' w' q r A)
theorem Hc{w w':Wo}{B e size n:Nat}{v:Value}{xs:List Value}(h:w.ownsRow B e size v n xs)(hk:∀ b,v.ownBlock=some b->w'.heap[b]?=w.heap[b]?):w'.ownsRow B e size v n xs:=by
 refine⟨h.1,?_⟩;rcases h.2 with i |⟨g,a,d,f,j,k,r⟩
 ·exact .inl i
 ·exact .inr ⟨g,a,d,f,j,(hk g (by rw[f];rfl)).trans k,r⟩
theorem Gn {w:Wo} {ops:Array Oper} {rest:List Oper} {o:Oper} {a:Act} {Q:Exit->Act->Wo->Prop} (hg:o.guard=none) (s x:Operand)
  (ho:o.op= .call {callee:=.builtin .append,args:=#[s,x],argTypes:=#[30,30]}) {B:Nat} {v:Value} {ts:List (List UInt8)} (hs:a.eval s=v)
  (h:OT w B v ts) {t:List UInt8} {g:Nat} (hx:a.eval x= .slice (some ⟨g,0,none⟩) 1 1) (hcell:w.cell? ⟨g,0,none⟩=some (.string (zh t))) (hB:B<=w.heap.size) (hl:ts.length<=1000000)
  (hK:∀ v' w',OT w' B v' (ts++[t])->w.grownBy w' v.ownBlock->(v'.ownBlock=v.ownBlock∨v'.ownBlock=some w.heap.size)->wpList Tryz.prog ops Q rest (a.put o.dst v') w'):wpList Tryz.prog ops Q (o :: rest) a w:=by
 refine DK Tryz.underlying30 Vi rfl (by decide) hg s x ho hs h (y:=.string (zh t)) rfl hx hcell hB (by omega) ?_;intro v' w' b d f;refine hK v' w' ?_ d f;unfold OT;rw[yh,yx];exact b
end Go.Proofs.YtpaecnbdoljafaaGreatDoor
namespace Go.Proofs.YtpaecnbdoljafaaGreatDoor
theorem Wn{c:UInt8}{n:Nat}(h:c.toNat=n):c=UInt8.ofNat n:=by rw[← h,UInt8.ofNat_toNat]
theorem Nv{α β:Type}{o:Option α}{f:α->β}{b:β}(h:o.map f=some b):∃ a,o=some a/\f a=b:=by
 cases o with
 | none=>simp at h
 | some a=>exact⟨a,rfl,by simpa using h⟩
theorem Hd(n:Nat):∀ (p t:List UInt8),p.length<=n->zQ p=some t->(∀ c∈p,¬ c.toNat=47)->p=zT t:=by
 induction n with
 | zero=>intro p t k h _;obtain rfl:=yO (Nat.le_zero.1 k);simp[zQ]at h;subst h;rfl
 | succ n ih=>
  intro p t k h a
  cases p with
  | nil=>simp[zQ]at h;subst h;rfl
  | cons c r=>
   by_cases f:(c.toNat:Int)=126
   ·cases r with
    | nil=>rw[U8 f]at h;cases h
    | cons d r=>
     by_cases l:(d.toNat:Int)=48
     ·rw[Uc r f l]at h;obtain⟨g,i,j⟩:=Nv h;subst j;have:=ih r g (by simp at k;omega) i (fun c b=>a c (yw _ (yw _ b)));rw[this,Wn (show c.toNat=126 by omega),Wn (show d.toNat=48 by omega)];rfl
     ·by_cases m:(d.toNat:Int)=49
      ·rw[Ud r f m]at h;obtain⟨g,i,j⟩:=Nv h;subst j;have:=ih r g (by simp at k;omega) i (fun c b=>a c (yw _ (yw _ b)));rw[this,Wn (show c.toNat=126 by omega),Wn (show d.toNat=49 by omega)];rfl
      ·rw[U9 r f l m]at h;cases h
   ·rw[Ub r f]at h;obtain⟨g,i,j⟩:=Nv h;subst j;have:=ih r g (by simp at k;omega) i (fun c b=>a c (yw _ b));have b:¬ (c.toNat:Int)=47:=fun e=>a c yq (by omega);show c :: r=QV c++zT g
    rw[U7 f b,← this];rfl
theorem XO:∀ (l p:List UInt8),p∈ZK l->∀ c∈p,¬ c.toNat=47
 | [],p,h,c,hc=>by simp[ZK]at h;subst h;simp at hc
 | a :: r,p,h,c,hc=>by
  by_cases ha:a.toNat=47
  ·rw[Gi r ha]at h;rcases List.mem_cons.1 h with rfl | h
   ·simp at hc
   ·exact XO r p h c hc
  ·cases hp:ZK r with
   | nil=>exact absurd hp (Gh r)
   | cons q qs=>
    rw[Vh ha hp]at h;rcases List.mem_cons.1 h with rfl | h
    ·rcases List.mem_cons.1 hc with rfl | hc
     ·exact ha
     ·exact XO r q (by rw[hp];exact yq) c hc
    ·exact XO r p (by rw[hp];exact yw _ h) c hc
def Gp(ps:List (List UInt8)):List UInt8:=ps.flatMap (fun p=>47 :: p)
theorem DM:∀ l:List UInt8,Gp (ZK l)=47 :: l
 | []=>rfl
 | a :: r=>by
  have ih:=DM r;by_cases b:a.toNat=47
  ·rw[Gi r b,show Gp ([] :: ZK r)=47 :: Gp (ZK r)from rfl,ih,Wn b];rfl
  ·cases hp:ZK r with
   | nil=>exact absurd hp (Gh r)
   | cons q qs=>
    rw[Vh b hp];rw[hp]at ih;have e:q++Gp qs=r:=by simpa [Gp]using ih
    show 47 ::(a :: q++Gp qs)=_
    rw[← e];rfl
def ptr(ts:List (List UInt8)):List UInt8:=ts.flatMap (fun t=>47 :: zT t)
theorem DN:∀ (ps ts:List (List UInt8)),ps.mapM zQ=some ts->(∀ p∈ps,∀ c∈p,¬ c.toNat=47)->Gp ps=ptr ts
 | [],ts,h,_=>by simp at h;subst h;rfl
 | p :: ps,ts,h,hno=>by
  rw[List.mapM_cons]at h
  cases h1:zQ p with
  | none=>rw[h1]at h;simp at h
  | some t=>
   cases h2:ps.mapM zQ with
   | none=>rw[h1,h2]at h;simp at h
   | some us=>
    rw[h1,h2]at h;simp at h;subst h;have e1:=Hd _ p t (ye _) h1 (hno p yq);have a:=DN ps us h2 (fun q hq=>hno q (yw _ hq));show 47 ::(p++Gp ps)=47 ::(zT t++ptr us)
    rw[a,e1]
theorem DQ{l:List UInt8}{ts:List (List UInt8)}(h:zK l=some ts):l=ptr ts:=by
 cases l with
 | nil=>simp[zK]at h;subst h;rfl
 | cons c r=>
  rw[zK]at h;split at h
  ·rename_i hc;unfold Qq at h;have:=DN _ _ h (fun p hp=>XO r p hp);rw[DM]at this;rw[← this,Wn hc];rfl
  ·cases h
theorem He{a b:List UInt8}(h:zT a=zT b):a=b:=by
 have d:=XL a;have f:=XL b;rw[h,f]at d;exact (Option.some.inj d).symm
def Sl(l:List UInt8):Prop:=l=[]∨∃ r,l=47 :: r
theorem Nw(ts:List (List UInt8)):Sl (ptr ts):=by cases ts with
 | nil=>exact .inl rfl
 | cons t ts=>exact .inr ⟨_,rfl⟩
theorem DR:∀ (a b x y:List UInt8),(∀ c∈a,¬ c.toNat=47)->(∀ c∈b,¬ c.toNat=47)->Sl x->Sl y->a++x=b++y->a=b/\x=y
 | [],[],x,y,_,_,_,_,h=>⟨rfl,h⟩
 | [],d :: b,x,y,_,hb,hx,_,h=>by
  rcases hx with rfl |⟨r,rfl⟩
  ·simp at h
  ·simp at h;exact absurd (by rw[← h.1];rfl) (hb d yq)
 | c :: a,[],x,y,ha,_,_,hy,h=>by
  rcases hy with rfl |⟨r,rfl⟩
  ·simp at h
  ·simp at h;exact absurd (by rw[h.1];rfl) (ha c yq)
 | c :: a,d :: b,x,y,ha,hb,hx,hy,h=>by
  simp at h;have:=DR a b x y (fun c hc=>ha c (yw _ hc)) (fun c hc=>hb c (yw _ hc)) hx hy h.2;exact⟨by rw[h.1,this.1],this.2⟩
theorem Hf{x y:List UInt8}(hx:Sl x)(hy:Sl y):Sl (x++y):=by
 rcases hx with rfl |⟨r,rfl⟩
 ·exact hy
 ·exact .inr ⟨_,rfl⟩
theorem DT:∀ (ts us:List (List UInt8)) (rest:List UInt8),Sl rest->ptr us=ptr ts++rest->∃ vs,us=ts++vs
 | [],us,_,_,_=>⟨us,rfl⟩
 | t :: ts,us,rest,hr,h=>by
  cases us with
  | nil=>simp[ptr]at h
  | cons u us=>
   have e:zT u++ptr us=zT t++(ptr ts++rest):=by
    have:(47:UInt8) ::(zT u++ptr us)=47 ::(zT t++ptr ts++rest):=h;simpa using this
   obtain⟨a,b⟩:=DR _ _ _ _ (XM u) (XM t) (Nw us) (Hf (Nw ts) hr) e;obtain⟨vs,rfl⟩:=DT ts us rest hr b;exact⟨vs,by rw[He a];rfl⟩
theorem XP(ts us:List (List UInt8)):pre ts us=true↔∃ vs,us=ts++vs:=by
 constructor
 ·intro h;have b:=AO h;rw[← AN b]at h;unfold Nn at h;have h:=of_decide_eq_true h;refine⟨us.drop ts.length,?_⟩;have e:ts=us.take ts.length:=by
   have a:(ts.map zH).map (·.data.toList)=(us.take ts.length).map (fun x=>(zH x).data.toList):=by
    rw[← List.map_take,yr (by simp)]at h;rw[h];simp[Function.comp_def]
   simpa [zH,Function.comp_def]using a
  conv=>lhs;rw[← List.take_append_drop ts.length us]
  rw[← e]
 ·rintro⟨vs,rfl⟩;exact AP ts vs
def JS(x y:List UInt8):Bool:=Lib.hasPrefix y x && (match Lib.trimPrefix y x with | []=>true | c :: _=>c.toNat ==47)
theorem DU{x y:List UInt8}{ts us:List (List UInt8)}(hx:zK x=some ts)(hy:zK y=some us):JS x y=pre ts us:=by
 have f:=DQ hx;have g:=DQ hy
 cases hp:pre ts us with
 | true=>
  obtain⟨d,rfl⟩:=(XP ts us).1 hp;have e:y=x++ptr d:=by rw[f,g];simp[ptr]
  have a:Lib.hasPrefix y x=true:=by rw[e];simp[Lib.hasPrefix]
  unfold JS;rw[a];have b:Lib.trimPrefix y x=ptr d:=by unfold Lib.trimPrefix;rw[a,yg rfl,e];simp
  rw[b];rcases Nw d with h |⟨r,h⟩<;>rw[h]<;>rfl
 | false=>
  cases hl:JS x y with
  | false=>rfl
  | true=>
   exfalso;unfold JS at hl;simp only[Bool.and_eq_true]at hl;obtain⟨a,b⟩:=hl;have j:x<+:y:=by simpa [Lib.hasPrefix]using a
   obtain⟨r,i⟩:=j;have k:Lib.trimPrefix y x=r:=by unfold Lib.trimPrefix;rw[a,yg rfl,← i];simp
   rw[k]at b;have l:Sl r:=by
    cases r with
    | nil=>exact .inl rfl
    | cons c r=>exact .inr ⟨r,by
                    have:c.toNat=47:=by simpa using b
                    rw[Wn this];rfl⟩
   have:=(XP ts us).2 (DT ts us r l (by rw[← f,← g,i]));rw[hp]at this;cases this
def YK(x y:List UInt8):Bool:=(zK x).isSome && (zK y).isSome && (JS x y || JS y x)
theorem DV(x y:List UInt8):YK x y=decide (0<YJ (zK x) (zK y)):=by
 unfold YK
 cases hx:zK x with
 | none=>simp[YJ]
 | some ts=>
  cases hy:zK y with
  | none=>simp[YJ]
  | some us=>
   rw[DU hx hy,DU hy hx];simp only[Option.isSome_some,Bool.true_and,YJ];by_cases a:pre ts us=true<;>by_cases b:pre us ts=true<;>simp[a,b]
def VJ(xs ys:List (List UInt8)):Bool:=xs.any fun x=>ys.any fun y=>YK x y
end Go.Proofs.YtpaecnbdoljafaaGreatDoor
namespace Go.Proofs.YtpaecnbdoljafaaGreatDoor
open Go.RowKit
theorem Hg{s t:Bs}(h:¬ s=t):(s.toList ==t.toList)=false:=by
 refine Bool.eq_false_iff.2 fun e=>h ?_;rw[yD,ByteArray.toList_eq,ByteArray.toList_eq]at e;exact ByteArray.ext (by simpa using e)
theorem DX(ss tt:List Bs)(xa ya:Option Addr)(xb xo xc yb yo yc:Nat)(w:Wo)(hx:SS w xa xb xo ss)(hy:SS w ya yb yo tt)(hm:ss.length<=10000000):
  Calls Tryz.prog 214 #[.slice xa ss.length xc,.slice ya tt.length yc] w fun e w'=>e= .returned (.bool (decide (ss=tt)))/\∃ n,w'=w.drewN n:=by
 by_cases l:ss.length=tt.length
 ·have b:=hx.ad;have a:=hy.ad;have B:=ze hx.cell;have y:=ze hy.cell;have g:Hid ((∀ j,j<ss.length->ss.getD j ByteArray.empty=tt.getD j ByteArray.empty)->decide (ss=tt)=true):=fun h=>yj (List.ext_getElem l fun j h1 h2=>by
   have:=h j h1;simpa [List.getD,h1,h2]using this)
  have f:Hid (∀ j,j<ss.length->¬ ss.getD j ByteArray.empty=tt.getD j ByteArray.empty->decide (ss=tt)=false):=fun j _ h=>yk fun e=>h (by rw[e]);rw[← l]at a y ⊢;clear hx hy l;generalize decide (ss=tt)=Q at *;go_in;go_wp2;go_loopw [13] (fun i wr=>∃ k:Nat,k<=ss.length/\i= .int .i64 k/\(∃ n,wr=w.drewN n)/\Hid (∀ j,j<k->ss.getD j ByteArray.empty=tt.getD j ByteArray.empty)) (fun i _=>ss.length - (intOf i).toNat)
  case atStart=>exact⟨0,yu _,rfl,⟨0,rfl⟩,fun j hj=>by omega⟩
  case round=>
   obtain⟨k,H,rfl,⟨n,rfl⟩,m⟩:=hrel;by_cases d:k<ss.length
   ·have v:=uh B k d;have x:=uh y k d;obtain rfl:=b (by omega);obtain rfl:=a (by omega);have r:=ze (uh f k d);have p:Hid (ss.getD k ByteArray.empty=tt.getD k ByteArray.empty->∀ j,j<k+1->ss.getD j ByteArray.empty=tt.getD j ByteArray.empty):=fun e j hj=>by
     by_cases E:j=k
     ·rw[E];exact e
     ·exact uh m j (by omega)
    clear b a f m;generalize hs:ss.getD k ByteArray.empty=s at *;generalize ht:tt.getD k ByteArray.empty=t at *;clear hs ht;have z:(k:Int)<(ss.length:Int):=by omega
    have C:(w.drewN n).cell? ⟨xb,xo+k,none⟩=some (.string s):=v;have D:(w.drewN n).cell? ⟨yb,yo+k,none⟩=some (.string t):=x;by_cases o:s=t
    ·have q:=ze (uh p o);subst o;clear p r;go_wp2;go_quiet (fail);go_wp2;go_roundw
     case rel=>exact⟨k+1,by omega,by go_num,⟨_,by first | rfl |(simp[World.drewN_drewN])⟩,q⟩
     case measure=>simp[intOf];omega
    ·have G:=Hg o;have u:=ze (uh r o);clear p r;go_wp2;go_quiet (fail);go_wp2;go_ret;exact⟨by rw[uh u];rfl,_,by rw[World.drewN_drewN]⟩
   ·have u:=ze (uh g fun j hj=>uh m j (by omega));clear b a m;go_wp2;go_ret;exact⟨by rw[uh u];rfl,_,rfl⟩
 ·have A:decide (ss=tt)=false:=yk fun e=>l (by rw[e]);rw[A];have F:¬ ((ss.length:Int)=(tt.length:Int)):=by omega
  clear A hx hy l;generalize ss.length=I at *;generalize tt.length=J at *;go_in;go_wp2;go_ret;exact⟨rfl,0,rfl⟩
end Go.Proofs.YtpaecnbdoljafaaGreatDoor
namespace Go.Proofs.YtpaecnbdoljafaaGreatDoor
open Go.ChangeShapes Go.WideShapes Go.ChangeAt Go.RowKit
theorem Hh{n:Int}(h:(Lit.int .u8 n).wf=true):((UInt8.ofNat n.toNat).toNat:Int)=n:=by
 have a:=bounds_u8 h;rw[UInt8.toNat_ofNat'];omega
theorem DY{W:Wo}{x:Addr}{len cap:Nat}{zs:List Int}(hl:len<=cap)(hz:zs.length=cap)(hcell:∀ i,i<zs.length->W.cell? (x.add i)=some (.int .u8 (zs.getD i 0)))(hwz:∀ n∈zs,(Lit.int .u8 n).wf=true):
  ∃ bb bo l,len=List.length l/\BS W (some x) bb bo l/\l.length<=cap:=by
 obtain⟨b,off,g⟩:=x;by_cases o:len=0
 ·exact⟨0,0,[],o,⟨fun h=>absurd h (by simp),fun j hj=>absurd hj (by simp)⟩,yu _⟩
 ·have q:=hcell 0 (by omega);have d:g=none:=by simpa [Addr.add]using World.cell?_spot q
  subst d;have k:((zs.take len).map (fun n=>UInt8.ofNat n.toNat)).length=len:=by simp;omega
  refine⟨b,off,(zs.take len).map (fun n=>UInt8.ofNat n.toNat),k.symm,⟨fun _=>rfl,fun j hj=>?_⟩,by omega⟩;have a:j<zs.length:=by omega
  have f:=hcell j a;rw[Go.WideShapes.add_plain]at f;rw[f];have e:zs.getD j 0=zs[j]:=by simp[a]
  have p:=Hh (hwz zs[j] (yt a));have m:((zs.take len).map (fun n=>UInt8.ofNat n.toNat)).getD j 0=UInt8.ofNat zs[j].toNat:=by
   have:j<len:=by omega
   simp[List.getD,this,a]
  rw[e,m,p]
end Go.Proofs.YtpaecnbdoljafaaGreatDoor
