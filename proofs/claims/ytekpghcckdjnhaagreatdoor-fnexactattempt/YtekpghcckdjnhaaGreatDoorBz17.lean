import Derived.Test.YtekpghcckdjnhaaGreatDoorBz2
import Derived.Test.YtekpghcckdjnhaaGreatDoorBz16
set_option maxRecDepth 100000
set_option maxHeartbeats 8000000
namespace Go.Proofs.YtekpghcckdjnhaaGreatDoor
open Go.RowKit Go.Proofs.Tryz
def Qk(ts:List TypeId)(w:Wo)(bl:List Nat):Prop:=∀ b∈bl,∃ cur t,w.heap[b]?=some (.cells cur t (0,0))/\t∈ts
theorem Dx{w:Wo}{B e size n:Nat}{v:Value}{xs:List Value}(h:w.ownsRow B e size v n xs):Qk [e] w v.ownBlock.toList:=by
 intro b a;rcases h.2 with ⟨f,_⟩ |⟨g,i,d,f,_,j,_⟩
 ·rw[f]at a;simp[Value.ownBlock]at a
 ·rw[f]at a;simp[Value.ownBlock]at a;subst a;exact⟨d,e,j,by simp⟩
theorem Qk.mono{ts ts':List TypeId}{w:Wo}{bl:List Nat}(h:Qk ts w bl)(hs:∀ t∈ts,t∈ts'):Qk ts' w bl:=fun b hb=>by
 obtain⟨a,t,d,f⟩:=h b hb;exact⟨a,t,d,hs t f⟩
theorem Qk.app{ts:List TypeId}{w:Wo}{bl cl:List Nat}(h:Qk ts w bl)(k:Qk ts w cl):Qk ts w (bl++cl):=fun b a=>by
 rcases List.mem_append.1 a with a | a
 ·exact h b a
 ·exact k b a
theorem Qk.keep{ts:List TypeId}{w w':Wo}{bl:List Nat}(h:Qk ts w bl)(hk:Kp bl w w'):Qk ts w' bl:=fun b hb=>by
 obtain⟨a,t,d,f⟩:=h b hb;exact⟨a,t,(hk b hb).trans d,f⟩
theorem Dy{α:Type}{e:QR α}{ts:List TypeId}(he:∀ {w vs x bl},e.E w vs x bl->Qk ts w bl){w:Wo}{v:Value}{xs:List α}{bl:List Nat}(h:zk e w v xs bl):Qk (e.T :: ts) w bl:=by
 obtain⟨n,o,i,l,rfl⟩:=h;refine ((Dx l).mono (by simp)).app fun b d=>?_;obtain⟨p,m,d⟩:=List.mem_flatMap.1 d;obtain⟨j,k,rfl⟩:=yX.1 m;obtain⟨a,t,f,g⟩:=he (i j n[j] (xs[j]'(by omega)) (yx k) (yx (by omega))) b d;exact⟨a,t,f,yv _ g⟩
theorem AJ{w:Wo}{vs:List Value}{s:Bs}{bl:List Nat}(h:YE.E w vs s bl):Qk [] w bl:=by
 obtain⟨_,rfl⟩:=h;intro b a;simp at a
theorem AK{w:Wo}{v:Value}{ss:List Bs}{bl:List Nat}(h:qy w v ss bl):Qk [9] w bl:=Dy (e:=YE) AJ h
theorem AL{w:Wo}{B e size n:Nat}{v:Value}{xs:List Value}(h:w.ownsRow 0 e size v n xs)(hB:∀ g,v.ownBlock=some g->B<=g):w.ownsRow B e size v n xs:=by
 refine⟨h.1,?_⟩;rcases h.2 with f |⟨g,a,b,d,_,r⟩
 ·exact .inl f
 ·exact .inr ⟨g,a,b,d,hB g (by rw[d];rfl),r⟩
theorem zk.app {α:Type} {e:QR α} {ts:List TypeId} (he:∀ {w vs x bl},e.E w vs x bl->Qk ts w bl) (hts:e.T ∉ ts) {B:Nat} {w:Wo} {v:Value} {xs:List α} {bl:List Nat} (h:zk e w v xs bl) (hF:Zj B bl)
  {vs:List Value} {x:α} {ib:List Nat} (hE:e.E w vs x ib) (hFi:Zj B ib) (hap:∀ b∈ib,b ∉ bl):
  ∃ cs,w.ownsRow B e.T e.wd v xs.length cs/\∀ v' w',w'.ownsRow B e.T e.wd v' (xs.length+1) (cs++vs)->w.grownBy w' v.ownBlock->∃ bl',zk e w' v' (xs++[x]) bl'/\Zj B bl'/\∀ b∈bl',b∈bl∨b∈ib∨v'.ownBlock=some b:=by
 have A:=h.lt;have o:=e.lt hE;obtain⟨l,H,n,L,rfl⟩:=h;refine⟨l.flatMap (·.1),AL L fun g hg=>hF.2 g (by simp[hg]),fun v' w' ho' hg=>?_⟩;have u:=hF.1;rw[List.nodup_append]at u;have G:Kp (l.flatMap (·.2)) w w':=fun b d=>hg.block b (A b (List.mem_append.2 (.inr d))) fun i=>u.2.2 b (by simp[← i]) b d rfl;have z:Kp ib w w':=fun b d=>hg.block b (o b d) fun i=>hap b d (List.mem_append.2 (.inl (by simp[← i])));have m:=e.keep hE z;have K:Qk ts w' (l.flatMap (·.2)++ib):=by
  refine Qk.app (Qk.keep (fun b d=>?_) G) (he m);obtain⟨p,f,d⟩:=List.mem_flatMap.1 d;obtain⟨j,F,rfl⟩:=yX.1 f;exact he (n j l[j] (xs[j]'(by omega)) (yx F) (yx (by omega))) b d
 refine⟨v'.ownBlock.toList++(l.flatMap (·.2)++ib),⟨l++[(vs,ib)],by simp[H],?_,?_,by simp⟩,⟨?_,?_⟩,?_⟩
 ·intro j p y f q;by_cases F:j<xs.length
  ·rw[List.getElem?_append_left (by omega)]at f q;exact e.keep (n j p y f q) fun b d=>G b (List.mem_flatMap.2 ⟨p,List.mem_of_getElem? f,d⟩)
  ·have C:=(List.getElem?_eq_some_iff.1 q).1;rw[yh,yR]at C;have:j=xs.length:=by omega
   subst this;rw[← H]at f;simp at f q;subst f;subst q;exact m
 ·rw[List.flatMap_append,yh];have:=qT ho' (yt B);simpa using this
 ·rw[List.nodup_append];refine⟨by cases v'.ownBlock<;>simp,?_,?_⟩
  ·rw[List.nodup_append];exact⟨u.2.1,hFi.1,fun a s b d i=>hap b d (List.mem_append.2 (.inr (i ▸ s)))⟩
  ·intro a s b d i;subst i;obtain⟨I,t,J,E⟩:=Dx ho' a s;obtain⟨D,M,k,r⟩:=K a d;rw[J]at k;simp at k E;exact hts (E ▸ k.2 ▸ r)
 ·intro b d;rcases List.mem_append.1 d with d | d
  ·exact (ho'.lt b (by simpa using d)).1
  ·rcases List.mem_append.1 d with d | d
   ·exact hF.2 b (List.mem_append.2 (.inr d))
   ·exact hFi.2 b d
 ·intro b d;rcases List.mem_append.1 d with d | d
  ·exact .inr (.inr (by simpa using d))
  ·rcases List.mem_append.1 d with d | d
   ·exact .inl (List.mem_append.2 (.inr d))
   ·exact .inr (.inl d)
theorem qy.cells{w:Wo}{v:Value}{ss:List Bs}{bl:List Nat}(h:qy w v ss bl):(v= .slice none 0 0/\ss=[])∨∃ g cap,v= .slice (some ⟨g,0,none⟩) ss.length cap/\∀ (j:Nat) (u:Value),(ss.map Value.string)[j]?=some u->w.cell? ((⟨g,0,none⟩:Addr).add j)=some u:=by
 obtain⟨b,_⟩:=Y0.1 h;rcases b.2 with ⟨a,f⟩ |⟨g,cap,d,a,_⟩
 ·exact .inl ⟨a,yN f⟩
 ·exact .inr ⟨g,cap,a,fun j u hu=>b.cells (by rw[a];rfl) j u hu⟩
theorem zk.head{α:Type}{e:QR α}{w:Wo}{v:Value}{xs:List α}{bl:List Nat}(h:zk e w v xs bl){g:Nat}(hg:v.ownBlock=some g):g∈bl:=by
 obtain⟨a,h⟩:=h.split;rw[h,hg];simp
theorem AM(ss:List Bs):∀ u∈ss.map Value.string,u.oneCell'=true:=by
 intro u a;obtain⟨s,_,rfl⟩:=yO.1 a;rfl
theorem AN {w:Wo} {ops:Array Oper} {rest:List Oper} {o:Oper} {a:Act} {Q:Exit->Act->Wo->Prop} (hg:o.guard=none) (s x:Operand)
  (ho:o.op= .call {callee:=.builtin .append,args:=#[s,x],argTypes:=#[55,55]}) {B:Nat} {v u:Value} {ss us:List Bs} {bk:List Nat} (hs:a.eval s=v) (hx:a.eval x=u)
  (h:w.ownsRow B 9 1 v ss.length (ss.map .string)) (k:qy w u us bk) (hB:B<=w.heap.size) (hl:ss.length+us.length<=4000000)
  (hK:∀ v' w',w'.ownsRow B 9 1 v' (ss++us).length ((ss++us).map .string)->w.grownBy w' v.ownBlock->wpList prog ops Q rest (a.put o.dst v') w'):wpList prog ops Q (o :: rest) a w:=by
 obtain⟨m,l,f,i,j⟩:=info_parts F5;rcases k.cells with ⟨rfl,rfl⟩ |⟨g,d,rfl,b⟩
 ·refine wpList_append_own_none hg s x 55 ho B 9 m 1 underlying55 l v _ _ hs h hx ?_;exact hK v w (by rw[yS];exact h) (World.grownBy.refl _ _)
 ·refine wpList_append_own _ hg s x 55 ho B 9 m (.string ByteArray.empty) 1 16 underlying55 l f i j rfl (by decide) v _ _ hs h ⟨g,0,none⟩ us.length d (us.map .string) hx (by simp) b (AM us) (by unfold maxLen;omega) (by omega) hB ?_;intro v' w' n p _;refine hK v' w' ?_ p;rw[yh,yw];exact n
theorem zgI {α:Type} {e:QR α} {ts:List TypeId} (he:∀ {w vs x bl},e.E w vs x bl->Qk ts w bl) (hts:e.T ∉ ts) {t:TypeId} (ht:prog.underlying t=some (.slice e.T)) {z:Value} {bytes:Nat}
  (hinfo:(prog.info? e.T).map (fun i=>(i.zero,i.size,i.bytes))=some (some z,e.wd,bytes)) (hzs:z.cells.size=e.wd) (hsz:0<e.wd) (hby:bytes<=100)
  {w:Wo} {ops:Array Oper} {rest:List Oper} {o:Oper} {a:Act} {Q:Exit->Act->Wo->Prop} (hg:o.guard=none) (s x:Operand)
  (ho:o.op= .call {callee:=.builtin .append,args:=#[s,x],argTypes:=#[t,t]}) {B:Nat} {v:Value} {xs:List α} {bl:List Nat} (hs:a.eval s=v)
  (h:zk e w v xs bl) (hF:Zj B bl) {vs:List Value} {y:α} {ib:List Nat} (hE:e.E w vs y ib) (hFi:Zj B ib) (hap:∀ b∈ib,b ∉ bl) {g:Nat} (hx:a.eval x= .slice (some ⟨g,0,none⟩) 1 1)
  (hcell:∀ (j:Nat) (u:Value),vs[j]?=some u->w.cell? ((⟨g,0,none⟩:Addr).add j)=some u) (h1:∀ u∈vs,u.oneCell'=true) (hB:B<=w.heap.size) (hl:xs.length<=40000000)
  (hK:∀ v' w' bl',zk e w' v' (xs++[y]) bl'->Zj B bl'->(∀ b∈bl',b∈bl∨b∈ib∨v'.ownBlock=some b)->w.grownBy w' v.ownBlock->wpList prog ops Q rest (a.put o.dst v') w'):wpList prog ops Q (o :: rest) a w:=by
 obtain⟨C,A,k,l,m⟩:=info_parts hinfo;obtain⟨cs,f,d⟩:=h.app he hts hF hE hFi hap;refine wpList_append_own _ hg s x t ho B e.T C z e.wd bytes ht A k l m hzs hsz v _ cs hs f ⟨g,0,none⟩ 1 1 vs hx (by rw[e.len hE];omega) hcell h1 (by unfold maxLen;omega) ?_ hB ?_
 ·have:(xs.length+1)*bytes<=(xs.length+1)*100:=Nat.mul_le_mul_left _ hby
  omega
 ·intro v' w' h1 n _;obtain⟨bl',p,q,r⟩:=d v' w' h1 n;exact hK v' w' bl' p q r n
theorem Na {α:Type} {e:QR α} {ts:List TypeId} (he:∀ {w vs x bl},e.E w vs x bl->Qk ts w bl) (hts:e.T ∉ ts) {t:TypeId} (ht:prog.underlying t=some (.slice e.T)) {z:Value} {bytes:Nat}
  (hinfo:(prog.info? e.T).map (fun i=>(i.zero,i.size,i.bytes))=some (some z,e.wd,bytes)) (hzs:z.cells.size=e.wd) (hsz:0<e.wd) (hby:bytes<=100)
  {w:Wo} {ops:Array Oper} {o:Oper} {a:Act} {K:Act->Wo->Prop} {Q:Exit->Act->Wo->Prop} {F:Prop} (hg:o.guard=none) (s x:Operand)
  (ho:o.op= .call {callee:=.builtin .append,args:=#[s,x],argTypes:=#[t,t]}) {B:Nat} {v:Value} {xs:List α} {bl:List Nat} (hs:a.eval s=v)
  (h:zk e w v xs bl) (hF:Zj B bl) {vs:List Value} {y:α} {ib:List Nat} (hE:e.E w vs y ib) (hFi:Zj B ib) (hap:∀ b∈ib,b ∉ bl) {g:Nat} (hx:a.eval x= .slice (some ⟨g,0,none⟩) 1 1)
  (hcell:∀ (j:Nat) (u:Value),vs[j]?=some u->w.cell? ((⟨g,0,none⟩:Addr).add j)=some u) (h1:∀ u∈vs,u.oneCell'=true) (hB:B<=w.heap.size) (hl:xs.length<=40000000)
  (hK:∀ v' w' bl',zk e w' v' (xs++[y]) bl'->Zj B bl'->(∀ b∈bl',b∈bl∨b∈ib∨v'.ownBlock=some b)->w.grownBy w' v.ownBlock->K (a.put o.dst v') w'):
  if Region.wanted o (yielded ops a.tmps)=true then Oper.wp prog o a w K Q else F:=by
 have C:Region.wanted o (yielded ops a.tmps)=true:=by simp[Region.wanted,hg]
 rw[yg C];obtain⟨D,A,k,l,m⟩:=info_parts hinfo;obtain⟨cs,f,d⟩:=h.app he hts hF hE hFi hap;refine wp_append_own w s x t ho B e.T D z e.wd bytes ht A k l m hzs hsz v _ cs hs f ⟨g,0,none⟩ 1 1 vs hx (by rw[e.len hE];omega) hcell h1 (by unfold maxLen;omega) ?_ hB ?_
 ·have:(xs.length+1)*bytes<=(xs.length+1)*100:=Nat.mul_le_mul_left _ hby
  omega
 ·intro v' w' h1 n _;obtain⟨bl',p,q,r⟩:=d v' w' h1 n;exact hK v' w' bl' p q r n
theorem Nb(w:Wo)(vs:List Value)(T:TypeId):∀ (j:Nat) (u:Value),vs[j]?=some u->(w.alloc (.cells vs.toArray T)).cell? ((⟨w.heap.size,0,none⟩:Addr).add j)=some u:=by
 intro j u a;have h:=yF (yG w (.cells vs.toArray T)) j;rw[Go.WideShapes.add_plain,Nat.zero_add,h];simpa using a
theorem AO{w:Wo}{v:Value}{ss:List Bs}{B:Nat}(h:w.ownsRow B 9 1 v ss.length (ss.map .string)):qy w v ss v.ownBlock.toList/\Zj B v.ownBlock.toList:=
 ⟨Y0.2 ⟨qT h (yt _),rfl⟩,by cases v.ownBlock<;>simp,fun b hb=>(h.lt b (by simpa using hb)).1⟩
theorem Dz(w:Wo)(e size:Nat):(w.alloc (.cells #[] e)).ownsRow w.heap.size e size (.slice (some ⟨w.heap.size,0,none⟩) 0 0) 0 []:=by
 exact w.ownsRow_made #[] 0 (ye _) (yt _) (by simp)
theorem AP{w:Wo}{vs:List Value}{x:Bs}{bl:List Nat}(h:YE.E w vs x bl):∀ u∈vs,u.oneCell'=true:=by
 obtain⟨rfl,_⟩:=h;intro u a;simp at a;subst a;rfl
theorem AQ:(prog.info? YE.T).map (fun i=>(i.zero,i.size,i.bytes))=some (some (.string ByteArray.empty),YE.wd,16):=F5
theorem AR(v:Value)(xs:List Bs)(bl:List Nat)(w:Wo)(h:qy w v xs bl)(hm:xs.length<=2097154):
  Calls prog 76 #[v] w fun e w'=>∃ v' bl',e= .returned v'/\qy w' v' xs bl'/\Zj w.heap.size bl'/\Bw w w':=by
 have k:bl=v.ownBlock.toList++[]:=by rw[yS];exact (Y0.1 h).2
 subst k;have H:=zb h;clear h;go_in;go_wp2_with (at_builtin;refine Sw (e:=YE) AP underlying55 AQ rfl (by decide) (by decide) rfl (.const (.slice none 0 0)) (.tmp 3) rfl rfl rfl (uh H) (by omega) ?_);intro v' w' i g a;have j:=zb i;have d:=zb g;have f:=zb a;clear i g a H;go_wp2;go_ret;refine⟨_,_,rfl,uh j,⟨?_,fun b a=>uh d b (by simpa using a)⟩,uh f⟩
 cases v'.ownBlock<;>simp
def AU(vs:List zl)(w:Wo)(e:Ending)(w':Wo):Prop:=∃ v bl,e= .returned (.agg #[v])/\zk zT w' v vs bl/\Zj w.heap.size bl/\Bw w w'
theorem XF{w:Wo}{vs:List Value}{m:zl}{bl:List Nat}(h:zT.E w vs m bl):Qk [9] w bl:=by obtain⟨q,_,h⟩:=h;exact AK h
theorem Nc:(prog.info? zT.T).map (fun i=>(i.zero,i.size,i.bytes))=some (some (.agg #[.int .i64 0,.string ByteArray.empty,.slice none 0 0]),zT.wd,48):=by kernel_rfl
end Go.Proofs.YtekpghcckdjnhaaGreatDoor
