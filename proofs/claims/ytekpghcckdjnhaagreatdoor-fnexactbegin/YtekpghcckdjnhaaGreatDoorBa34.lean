import Derived.Test.YtekpghcckdjnhaaGreatDoorBa33
import Derived.Shelf.Spec.SlicesGrow
set_option maxRecDepth 100000
set_option maxHeartbeats 8000000
namespace Go.Proofs.YtekpghcckdjnhaaGreatDoor
open Go.RowKit Go.Proofs.Tryz
theorem zeP {P:Program} {ops:Array Oper} {o:Oper} {a:Act} {w:World} {K:Act->World->Prop} {Q:Exit->Act->World->Prop} {E:Prop}
  (hg:o.guard=none) (s x:Operand) (t:TypeId) (hop:o.op=Op.call { callee:=Callee.builtin Builtin.append,args:=#[s,x],argTypes:=#[t,t] })
  (base:Nat) (e:TypeId) (i:TypeInfo) (z:Value) (size bytes:Nat) (ht:P.underlying t=some (.slice e)) (hi:P.info? e=some i) (hz:i.zero=some z)
  (hsize:i.size=size) (hby:i.bytes=bytes) (hzs:z.cells.size=size) (hsz:0 < size)
  (v:Value) (n:Nat) (xs:List Value) (hs:a.eval s=v) (hown:w.ownsRow base e size v n xs)
  (ad:Addr) (m c:Nat) (news:List Value) (hx:a.eval x = .slice (some ad) m c) (hl:news.length=m*size) (hnews:∀ j u,news[j]?=some u->w.cell? (ad.add j)=some u) (h1:∀ u∈news,u.oneCell'=true)
  (h63:n+m<=maxLen) (hbytes:(n+m)*bytes<=140737488355328) (hbase:base<=w.heap.size)
  (hK:∀ v' w',w'.ownsRow base e size v' (n+m) (xs++news)->w.grownBy w' v.ownBlock->(v'.ownBlock=v.ownBlock∨v'.ownBlock=some w.heap.size)->K (a.put o.dst v') w') :
  if Region.wanted o (yielded ops a.tmps)=true then Oper.wp P o a w K Q else E:=by
 have hw:Region.wanted o (yielded ops a.tmps)=true:=by simp[Region.wanted,hg]
 rw[yg hw]
 obtain⟨v',w',hrun,r1,r2,_,r4⟩:=run_append_own_at (P:=P) (w:=w) base t o.type e i z size bytes ht hi hz hsize hby hzs hsz v n xs hown ad m c news hl hnews h1 h63 hbytes hbase
 unfold Oper.wp
 simp[execOp,hop,resolve,invoke,builtin,hs,hx,hrun,Result.andThen]
 exact hK v' w' r1 r2 r4
def zqG (s:ByteArray) (j:Nat) : Option (JL×Nat):=if bt s j=93 then some (.nil,j+1) else if bt s j=44 then elems s (sk s (j+1)) else none
theorem ziL {s:ByteArray} {i n:Nat} {v:JV} (h:val s i=some (v,n)) : elems s i=(zqG s (sk s n)).map fun q=>(JL.cons v q.1,q.2):=by
 rw[zdK,h]
 unfold zqG
 simp only[yA]
 split
 ·rfl
 ·split <;> rfl
def AS (ab:Nat) (sv:Value) (wx:World) (k:Nat) : Prop:=ab < k/\k < wx.heap.size/\sv.ownBlock≠some k
def ASt (rb:Nat) (s:ByteArray) (tb kt:Bool) (w:World) (j:Nat) (acc:JL) (sv:Value) (xs:List Value) (wx:World) : Prop:=
 Rdr rb s j (tb || zeG acc) (kt || twL acc) wx/\wx.heap[w.heap.size]?=some (zoS sv)/\wx.ownsRow (w.heap.size+1) 66 1 sv xs.length xs/\KB rb w wx/\w.heap.size+1<=wx.heap.size /\
  (zeG acc=false->twL acc=false->zbS wx (AS w.heap.size sv wx) acc xs)
theorem zkO {rb:Nat} {w w1:World} {B e size n:Nat} {v:Value} {xs:List Value} (h:w.ownsRow B e size v n xs) (k:KB rb w w1) (hB:rb < B) : w1.ownsRow B e size v n xs:=by
 refine⟨h.1,?_⟩
 rcases h.2 with h0 | ⟨g,cap,cur,hv,hb,hg,r⟩
 ·exact .inl h0
 ·exact .inr ⟨g,cap,cur,hv,hb,(k.block g (yB.1 hg).1 (by omega)).trans hg,r⟩
theorem ASt.step {rb:Nat} {s:ByteArray} {tb kt:Bool} {w W0 w4 w5:World} {j k:Nat} {acc:JL} {sv v5:Value} {xs:List Value} {v:JV} {t:TypeId} {p:Value} {o:Obj} (hrb:rb < w.heap.size)
  (h:ASt rb s tb kt w j acc sv xs W0) (k4:KB rb W0 w4) (r4:Rdr rb s k ((tb || zeG acc) || zbf v) ((kt || twL acc) || twV v) w4)
  (hrep:zbf v=false->twV v=false->Rep w4 (fun b=>W0.heap.size<=b/\b < w4.heap.size) v (.iface t p))
  (own5:w5.ownsRow (w.heap.size+1) 66 1 v5 (xs.length+1) (xs++[.iface t p])) (hg5:(w4.alloc o).grownBy w5 sv.ownBlock) (hat:v5.ownBlock=sv.ownBlock∨v5.ownBlock=some (w4.alloc o).heap.size) :
  ASt rb s tb kt w k (acc.app (.cons v .nil)) v5 (xs++[.iface t p]) (w5.setCell ⟨w.heap.size,0,none⟩ v5):=by
 obtain⟨h1,h2,h3,h4,h5,h6⟩:=h
 have hs4:=k4.size
 have hso:(w4.alloc o).heap.size=w4.heap.size+1:=by simp
 have hs5:=hg5.size
 have hsvb:∀ g,sv.ownBlock=some g->w.heap.size+1<=g/\g < W0.heap.size:=fun g hg=>⟨(h3.lt g hg).1,(h3.lt g hg).2⟩
 have keep:∀ b,b < w4.heap.size->sv.ownBlock≠some b->w5.heap[b]?=w4.heap[b]?:=fun b hb hn=>(hg5.block b (by omega) (fun e=>hn e.symm)).trans (Lib.alloc_old w4 o b hb)
 have set5:∀ b,b≠w.heap.size->(w5.setCell ⟨w.heap.size,0,none⟩ v5).heap[b]?=w5.heap[b]?:=fun b hb=>Below.heap_setCell w5 ⟨w.heap.size,0,none⟩ v5 b hb
 have hab4:w4.heap[w.heap.size]?=some (zoS sv):=(k4.block w.heap.size (by omega) (by omega)).trans h2
 have hab5:w5.heap[w.heap.size]?=some (zoS sv):=(keep w.heap.size (by omega) (fun e=>by have:=(hsvb _ e).1; omega)).trans hab4
 have hrb5:w5.heap[rb]?=w4.heap[rb]?:=keep rb (by omega) (fun e=>by have:=(hsvb _ e).1; omega)
 have hsz6:(w5.setCell ⟨w.heap.size,0,none⟩ v5).heap.size=w5.heap.size:=by simp[World.setCell]
 have hbb:zeG (acc.app (.cons v .nil))=(zeG acc || zbf v):=by rw[zjY]; simp[zeG]
 have htt:twL (acc.app (.cons v .nil))=(twL acc || twV v):=by rw[zm0]; simp[twL]
 refine⟨?_,?_,?_,?_,by omega,?_⟩
 ·rw[hbb,htt,← Bool.or_assoc,← Bool.or_assoc]
  exact (set5 rb (by omega)).trans (hrb5.trans r4)
 ·exact heap_setCell_same w5 w.heap.size 0 _ 198 v5 hab5
 ·rw[yh]
  refine⟨own5.1,?_⟩
  rcases own5.2 with h0 | ⟨g,cap,cur,hv,hb,hg,r⟩
  ·exact .inl h0
  ·exact .inr ⟨g,cap,cur,hv,hb,(set5 g (by omega)).trans hg,r⟩
 ·refine⟨?_,?_,?_,by rw[hsz6]; have:=h4.size; omega,fun b hb hn=>?_⟩
  ·exact (hg5.os.trans (show (w4.alloc o).os=w4.os from rfl)).trans ((k4.trans (KB.refl rb w4)).os.trans h4.os)
  ·exact (hg5.tape.trans (show (w4.alloc o).tape=w4.tape from rfl)).trans (k4.tape.trans h4.tape)
  ·exact (hg5.output.trans (show (w4.alloc o).output=w4.output from rfl)).trans (k4.output.trans h4.output)
  ·have h40:=h4.size
   exact (set5 b (by omega)).trans ((keep b (by omega) (fun e=>by have:=(hsvb _ e).1; omega)).trans ((k4.block b (by omega) hn).trans (h4.block b hb hn)))
 ·intro hb ht
  rw[hbb] at hb
  rw[htt] at ht
  obtain⟨hb1,hb2⟩:=Bool.or_eq_false_iff.1 hb
  obtain⟨ht1,ht2⟩:=Bool.or_eq_false_iff.1 ht
  have hnew:∀ b,b < w4.heap.size->sv.ownBlock≠some b->v5.ownBlock≠some b:=fun b hb hn e=>by
   rcases hat with g | g
   ·exact hn (g.symm.trans e)
   ·rw[g] at e; injection e with e; omega
  refine zbS.app acc (.cons v .nil) xs [.iface t p] ?_ ?_
  ·refine zbS.keep (w:=W0) (S:=AS w.heap.size sv W0) (fun b hb=>?_) (fun b hb=>?_) acc xs (h6 hb1 ht1)
   ·obtain⟨g1,g2,g3⟩:=hb
    exact (set5 b (by omega)).trans ((keep b (by omega) g3).trans (k4.block b g2 (by omega)))
   ·obtain⟨g1,g2,g3⟩:=hb
    exact⟨g1,by rw[hsz6]; omega,hnew b (by omega) g3⟩
  ·rw[zbS]
   refine⟨_,[],rfl,?_,by rw[zbS]⟩
   refine Rep.keep (w:=w4) (S:=fun b=>W0.heap.size<=b/\b < w4.heap.size) (fun b hb=>?_) (fun b hb=>?_) v _ (hrep hb2 ht2)
   ·have hn:sv.ownBlock≠some b:=fun e=>by have:=(hsvb _ e).2; omega
    exact (set5 b (by omega)).trans (keep b hb.2 hn)
   ·have hn:sv.ownBlock≠some b:=fun e=>by have:=(hsvb _ e).2; omega
    exact⟨by omega,by rw[hsz6]; omega,hnew b hb.2 hn⟩
def zqH (s:ByteArray) (j:Nat) : Option (JM×Nat):=if bt s j=125 then some (.nil,j+1) else if bt s j=44 then zhP s (sk s (j+1)) else none
theorem zkP (s:ByteArray) (i:Nat) : zhP s (sk s i)=(zoR s i).bind fun m=>(zqH s m.2).map fun q=>(JM.cons m.1.1 m.1.2 q.1,q.2):=by
 rw[zhQ]
 unfold zoR
 cases zcM s (sk s i) with
 | none=>rfl
 | some k=>
  simp only[yA]
  by_cases h:bt s (sk s k.2)=58
  ·rw[yg h,yg h]
   cases val s (sk s (sk s k.2+1)) with
   | none=>rfl
   | some q=>
    simp only[yA,Option.map_some]
    unfold zqH
    split
    ·rfl
    ·split <;> rfl
  ·rw[yf h,yf h]; rfl
theorem zqI {s:ByteArray} {i j:Nat} {m:List UInt8×JV} (h:zoR s i=some (m,j)) : i < j/\j<=s.size:=by
 unfold zoR at h
 cases hq:zcM s (sk s i) with
 | none=>rw[hq] at h; cases h
 | some k=>
  have h0:=zce hq
  have h1:=zaz s i
  rw[hq] at h
  simp only[yA] at h
  by_cases h58:bt s (sk s k.2)=58
  ·rw[yg h58] at h
   cases hv:val s (sk s (sk s k.2+1)) with
   | none=>rw[hv] at h; cases h
   | some q=>
    rw[hv] at h
    simp only[Option.map_some] at h
    injection h with h
    injection h with _ h
    have h2:=zeV hv
    have h3:=zaz s (sk s k.2+1)
    have h4:=zaz s k.2
    have h5:=zaz s q.2
    have h6:=(zdG h2.2).2
    omega
  ·rw[yf h58] at h; cases h
abbrev zua (b:Nat) : Obj:=.cells #[.map (some b)] 228 (0,0)
def OS (L:Nat) (wx:World) (k:Nat) : Prop:=L<=k/\k < wx.heap.size
structure OSt (rb:Nat) (s:ByteArray) (tb kt:Bool) (w:World) (ob b L j:Nat) (acc:JM) (xs:List (List UInt8×Value)) (wx:World) : Prop where
 rdr:Rdr rb s j (tb || zds acc) (kt || twM [] acc) wx
 blk:wx.heap[ob]?=some (zua b)
 own:wx.ownsMap prog 9 RH b xs.length (zao xs)
 kb:KB rb w wx
 keys:xs.map (·.1)=zcu acc
 size:L<=wx.heap.size
 rep:zds acc=false->twM [] acc=false->zcm wx (OS L wx) acc xs
theorem OSt.next {rb:Nat} {s:ByteArray} {tb kt:Bool} {w W0 w7:World} {ob b L j k:Nat} {acc:JM} {xs:List (List UInt8×Value)} (h1:rb < w.heap.size) (h2:w.heap.size<=ob) (h3:w.heap.size<=b) (hb:b < L) (ho:ob < L)
  (h:OSt rb s tb kt w ob b L j acc xs W0) (k7:KB rb W0 w7) (r7:Rdr rb s k (tb || zds acc) (kt || twM [] acc) w7) : OSt rb s tb kt w ob b L k acc xs w7:=by
 have hs:=h.size
 have hs7:=k7.size
 refine⟨r7,(k7.block ob (by omega) (by omega)).trans h.blk,za1 h.own (k7.block b (by omega) (by omega)),h.kb.trans k7,h.keys,by omega,fun a c=>?_⟩
 exact zcm.keep (w:=W0) (S:=OS L W0) (fun k hk=>k7.block k hk.2 (by have:=hk.1; omega)) (fun k hk=>⟨hk.1,by have:=hk.2; omega⟩) acc xs (h.rep a c)
theorem OSt.step {rb:Nat} {s:ByteArray} {tb kt:Bool} {w W0 w7:World} {ob b L j k:Nat} {acc:JM} {xs:List (List UInt8×Value)} {key:List UInt8} {v:JV} {t:TypeId} {p:Value}
  (h1:rb < w.heap.size) (h2:w.heap.size<=ob) (h3:w.heap.size<=b) (hb:b < L) (ho:ob < L) (hne:ob≠b)
  (h:OSt rb s tb kt w ob b L j acc xs W0) (k7:KB2 rb b W0 w7) (r7:Rdr rb s k ((tb || zds acc) || zbf v) (((kt || twM [] acc) || twV v) || (xs.map (·.1)).contains key) w7)
  (m7:w7.ownsMap prog 9 RH b (xs.length+1) (zao (xs++[(key,.iface t p)])))
  (hrep:zbf v=false->twV v=false->Rep w7 (fun k=>W0.heap.size<=k/\k < w7.heap.size) v (.iface t p)) :
  OSt rb s tb kt w ob b L k (acc.app (.cons key v .nil)) (xs++[(key,.iface t p)]) w7:=by
 have hs:=h.size
 have hs7:=k7.size
 have hkb:=h.kb.size
 have hbb:zds (acc.app (.cons key v .nil))=(zds acc || zbf v):=by rw[zjZ]; simp[zds]
 have htt:twM [] (acc.app (.cons key v .nil))=((twM [] acc || twV v) || (zcu acc).contains key):=by rw[zm1]; simp[twM,Bool.or_assoc]
 refine⟨?_,(k7.block ob (by omega) (by omega) hne).trans h.blk,by rw[yh]; exact m7,?_,?_,by omega,fun a c=>?_⟩
 ·rw[hbb,htt,← h.keys]
  simpa only [Bool.or_assoc] using r7
 ·exact⟨k7.os.trans h.kb.os,k7.tape.trans h.kb.tape,k7.output.trans h.kb.output,by omega,fun g hg hn=>(k7.block g (by omega) hn (by omega)).trans (h.kb.block g hg hn)⟩
 ·rw[yw,h.keys,zlh]; rfl
 ·rw[hbb] at a
  rw[htt] at c
  obtain⟨a1,a2⟩:=Bool.or_eq_false_iff.1 a
  obtain⟨c0,_⟩:=Bool.or_eq_false_iff.1 c
  obtain⟨c1,c2⟩:=Bool.or_eq_false_iff.1 c0
  refine zcm.app acc (.cons key v .nil) xs [(key,.iface t p)] ?_ ?_
  ·exact zcm.keep (w:=W0) (S:=OS L W0) (fun g hg=>k7.block g hg.2 (by have:=hg.1; omega) (by have:=hg.1; omega)) (fun g hg=>⟨hg.1,by have:=hg.2; omega⟩) acc xs (h.rep a1 c1)
  ·rw[zcm]
   refine⟨_,[],rfl,?_,by rw[zcm]⟩
   exact Rep.keep (w:=w7) (fun _ _=>rfl) (fun g hg=>⟨by have:=hg.1; omega,hg.2⟩) v _ (hrep a2 c2)
theorem KB2.off {rb b:Nat} {w W0 w7:World} (k7:KB2 rb b W0 w7) (k:KB rb w W0) (hb:w.heap.size<=b) : KB rb w w7:=
 ⟨k7.os.trans k.os,k7.tape.trans k.tape,k7.output.trans k.output,yP k.size k7.size,fun g hg hn=>(k7.block g (yE hg k.size) hn (by omega)).trans (k.block g hg hn)⟩
theorem zhn (rb:Nat) (s:ByteArray) (i:Nat) (tb kt:Bool) (w:World) (h:Rdr rb s i tb kt w) (hs:s.size<=100000) (h123:bt s i=123) (B:Nat) (hT:zb2 B w) (hB:B<=rb)
  (HV:∀ (j:Nat) (tb' kt':Bool) (w1:World),i < j->j<=s.size->Rdr rb s j tb' kt' w1->KB rb w w1->Calls prog 127 #[.pointer (some ⟨rb,0,none⟩)] w1 (ze0 rb s tb' kt' w1 ((val s (sk s j)).map fun q=>(q.1,sk s q.2)))) :
  Calls prog 177 #[.pointer (some ⟨rb,0,none⟩)] w (ze0 rb s tb kt w (val s i)):=by
 have hlt:=h.lt
 have hi:i < s.size:=zaw (by omega)
 have HVV:=zab (zjX h123)
 have HHV:=zab HV
 have HT:=zab hT
 have k00:=zaz s (i+1)
 have k01:=(zdG (s:=s) (i:=i+1) (by omega)).2
 have k02:=zab (zqF s (i+1))
 have rA:Rdr rb s i tb kt ((w.alloc (.map #[] 0)).alloc (zua w.heap.size)):=(h.below (zcU w (.map #[] 0))).below (zcU (w.alloc (.map #[] 0)) (zua w.heap.size))
 have kA:KB rb w ((w.alloc (.map #[] 0)).alloc (zua w.heap.size)):=(KB.of_below (rb:=rb) (zcU w (.map #[] 0))).trans (KB.of_below (rb:=rb) (zcU (w.alloc (.map #[] 0)) (zua w.heap.size)))
 have hsA:((w.alloc (.map #[] 0)).alloc (zua w.heap.size)).heap.size=w.heap.size+2:=by simp
 have O0:Hid (OSt rb s tb kt w (w.heap.size+1) w.heap.size (w.heap.size+2) i .nil [] ((w.alloc (.map #[] 0)).alloc (zua w.heap.size))):=by
  refine⟨by simp only[zds,twM,Bool.or_false]; exact rA,?_,(World.ownsMap_made w prog 9 RH).alloc _,kA,rfl,by omega,fun _ _=>by rw[zcm]⟩
  have:=yG (w.alloc (.map #[] 0)) (zua w.heap.size)
  simpa using this
 have HEX:=zab (zbO rb s i tb kt _ rA (by omega) 123 h123 hi)
 clear h HV h123 hT rA kA hsA
 have hmm:=run_makeMap (P:=prog) 226 w
 generalize hk0:sk s (i+1)=k0 at *
 have HK0:=zab hk0
 clear hk0
 go_enter func177,ntmps177
 go_wp2_with fail
 clear hmm
 refine (uh HEX).mono ?_
 rintro e w1 ⟨rfl,r1,k1⟩
 have HSK:=zab (zbb rb s (i+1) tb kt w1 r1 (by omega) (by omega))
 have O1:=zab ((uh O0).next hlt (by omega) (by omega) (by omega) (by omega) k1 (by simp only[zds,twM,Bool.or_false]; exact r1))
 clear HEX r1 k1 O0
 go_wp2_with fail
 refine (uh HSK).mono ?_
 rintro e w2 ⟨rfl,r2,k2⟩
 rw[uh HK0] at r2
 have O2:=zab ((uh O1).next hlt (by omega) (by omega) (by omega) (by omega) k2 (by simp only[zds,twM,Bool.or_false]; exact r2))
 have R2:=zab r2
 clear HSK r2 k2 O1 HK0
 by_cases h125:bt s k0=125
 ·have HS:=zab (zcy rb s k0 tb kt w2 (uh R2) (by omega) 125 h125 (zaw (by omega)))
  have HR:Hid (val s i=some (.obj .nil,k0+1)):=by show _=_; rw[uh HVV,yg h125]
  clear h125
  go_wp2_with fail
  refine (uh HS).mono ?_
  rintro e w3 ⟨rfl,r3,k3⟩
  have O3:=zab ((uh O2).next hlt (by omega) (by omega) (by omega) (by omega) k3 (by simp only[zds,twM,Bool.or_false]; exact r3))
  clear HS r3 k3 O2 R2
  go_wp2
  go_ret
  refine⟨(uh O3).kb,?_⟩
  rw[uh HR]
  have hsz:=(uh O3).size
  refine⟨_,_,rfl,by simp only[zbf,twV]; exact (uh O3).rdr,fun _ _=>?_⟩
  rw[Rep]
  exact⟨w.heap.size+1,w.heap.size,0,[],rfl,⟨by omega,by omega⟩,⟨by omega,by omega⟩,(uh O3).blk,(uh O3).own,ye _,by rw[zcm]⟩
 ·have HS:=zab (zc0 rb s k0 tb kt w2 (uh R2) k01 125 (.inl h125))
  have HR:Hid (val s i=(zhP s k0).map fun q=>(.obj q.1,q.2)):=by show _=_; rw[uh HVV,yf h125]
  clear h125 HVV
  go_wp2_with fail
  refine (uh HS).mono ?_
  rintro e w3 ⟨rfl,r3,k3⟩
  have O3:=zab ((uh O2).next hlt (by omega) (by omega) (by omega) (by omega) k3 (by simp only[zds,twM,Bool.or_false]; exact r3))
  clear HS r3 k3 O2 R2
  have hs3:=(uh O3).size
  have HC:=zab (zd7 rb s k0 _ _ w3 (uh O3).rdr hs k01 B ((uh HT).next ((uh O3).kb.below hB (by omega)) (ye _)) hB w.heap.size _ _ (uh O3).own hlt (by simp)
   (fun j w1 a b c d=>uh HHV j _ _ w1 (by omega) b c ((uh O3).kb.trans d)))
  have HMT:=zab (zkP s k0)
  rw[uh k02] at HMT
  have c3:w3.cell? ⟨w.heap.size+1,0,none⟩=some (.map (some w.heap.size)):=yF (uh O3).blk 0
  cases hv:zoR s k0 with
  | none=>
   rw[hv] at HC HMT
   have HN:Hid (val s i=none):=by show _=_; rw[uh HR,uh HMT]; rfl
   clear hv
   go_wp2_with fail
   refine (uh HC).mono ?_
   rintro e w4 ⟨k4,rfl⟩
   exact⟨rfl,k4.off (uh O3).kb (ye _),by rw[uh HN]; rfl⟩
  | some q=>
   obtain⟨⟨key,v⟩,n⟩:=q
   have hvo:=zqI hv
   rw[hv] at HC HMT
   clear hv
   go_wp2_with fail
   refine (uh HC).mono ?_
   rintro e w4 ⟨k4,t,p,rfl,r4,m4,rep4⟩
   have HA0:=zab ((uh O3).step hlt (by omega) (by omega) (by omega) (by omega) (by omega) k4 r4 m4 rep4)
   clear HC O3 k4 r4 m4 rep4 c3
   go_wp2_with fail
   go_loopg [] (s.size+1 - n) (fun g wr=>∃ (j:Nat) (acc:JM) (xs:List (List UInt8×Value)),g=s.size+1 - j/\j<=s.size/\k0 < j/\xs.length<=j/\OSt rb s tb kt w (w.heap.size+1) w.heap.size (w.heap.size+2) j acc xs wr/\zhP s k0=(zqH s j).map fun q=>(acc.app q.1,q.2))
   case atStart=>exact⟨n,_,_,rfl,hvo.2,hvo.1,by simp; omega,uh HA0,by rw[uh HMT]; rfl⟩
   case round=>
    obtain⟨j,acc,xs,hg,hj,hj0,hxl,host,hst⟩:=hrel
    have HST:=zab hst
    have HAW:=zab host
    have hsw:=host.size
    clear hst host HA0 HMT hvo
    by_cases h44:bt s j=44
    ·have hjl:j < s.size:=zaw (by omega)
     have HS:=zab (zcy rb s j _ _ wr (uh HAW).rdr (by omega) 44 h44 hjl)
     have HTE:Hid (zhP s k0=(zhP s (sk s (j+1))).map fun q=>(acc.app q.1,q.2)):=by
      show _=_
      rw[uh HST,zqH,yf (by omega),yg h44]
     clear h44 HST
     go_wp2_with fail
     refine (uh HS).mono ?_
     rintro e w7 ⟨rfl,r7,k7⟩
     have O7:=zab ((uh HAW).next hlt (by omega) (by omega) (by omega) (by omega) k7 r7)
     have hs7:=(uh O7).size
     clear HS k7 HAW r7
     have HC:=zab (zd7 rb s (j+1) _ _ w7 (uh O7).rdr hs (by omega) B ((uh HT).next ((uh O7).kb.below hB (by omega)) (ye _)) hB w.heap.size _ _ (uh O7).own hlt (by omega)
      (fun j w1 a b c d=>uh HHV j _ _ w1 (by omega) b c ((uh O7).kb.trans d)))
     have HMT:=zab (zkP s (j+1))
     have c7:w7.cell? ⟨w.heap.size+1,0,none⟩=some (.map (some w.heap.size)):=yF (uh O7).blk 0
     cases hv:zoR s (j+1) with
     | none=>
      rw[hv] at HC HMT
      have HN:Hid (val s i=none):=by show _=_; rw[uh HR,uh HTE,uh HMT]; rfl
      clear hv
      go_wp2_with fail
      refine (uh HC).mono ?_
      rintro e w4 ⟨k4,rfl⟩
      exact⟨rfl,k4.off (uh O7).kb (ye _),by rw[uh HN]; rfl⟩
     | some q=>
      obtain⟨⟨key2,v2⟩,n2⟩:=q
      have hvo:=zqI hv
      rw[hv] at HC HMT
      clear hv
      go_wp2_with fail
      refine (uh HC).mono ?_
      rintro e w8 ⟨k8,t8,p8,rfl,r8,m8,rep8⟩
      have HS5:=zab ((uh O7).step hlt (by omega) (by omega) (by omega) (by omega) (by omega) k8 r8 m8 rep8)
      clear HC O7 k8 r8 m8 rep8 c7
      go_wp2
      go_roundg (s.size+1 - n2)
      all_goals first
       | omega
       | exact⟨n2,_,_,rfl,hvo.2,by omega,by rw[yh]; simp only[yn,yD]; omega,uh HS5,by rw[uh HTE,uh HMT,yA,Option.map_map]; congr 1; funext q; simp[JM.app_assoc,JM.app]⟩
    ·have HS:=zab (zc0 rb s j _ _ wr (uh HAW).rdr hj 44 (.inl h44))
     have HTE:Hid (zhP s k0=(if bt s j=125 then some (JM.nil,j+1) else none).map fun q=>(acc.app q.1,q.2)):=by
      show _=_
      rw[uh HST,zqH]
      by_cases g:bt s j=125
      ·rw[yg g,yg g]
      ·rw[yf g,yf h44,yf g]
     clear h44 HST
     go_wp2_with fail
     refine (uh HS).mono ?_
     rintro e w7 ⟨rfl,r7,k7⟩
     have O7:=zab ((uh HAW).next hlt (by omega) (by omega) (by omega) (by omega) k7 r7)
     clear HS HAW r7 k7
     by_cases h125:bt s j=125
     ·have HE:=zab (zbO rb s j _ _ w7 (uh O7).rdr (by omega) 125 h125 (zaw (by omega)))
      have HN:Hid (val s i=some (.obj acc,j+1)):=by
       show _=_
       rw[uh HR,uh HTE,yg h125]; simp[JM.app_nil]
      clear h125
      go_wp2_with fail
      refine (uh HE).mono ?_
      rintro e w8 ⟨rfl,r8,k8⟩
      have O8:=zab ((uh O7).next hlt (by omega) (by omega) (by omega) (by omega) k8 r8)
      have hs8:=(uh O8).size
      clear HE r8 k8 O7
      go_wp2
      go_ret
      refine⟨(uh O8).kb,?_⟩
      rw[uh HN]
      refine⟨_,_,rfl,by simp only[zbf,twV]; exact (uh O8).rdr,fun a b=>?_⟩
      rw[Rep]
      simp only[zbf] at a
      simp only[twV] at b
      exact⟨w.heap.size+1,w.heap.size,xs.length,xs,rfl,⟨by omega,by omega⟩,⟨by omega,by omega⟩,(uh O8).blk,(uh O8).own,ye _,zcm.keep (fun _ _=>rfl) (fun b hb=>⟨by have:=hb.1; omega,hb.2⟩) acc xs ((uh O8).rep a b)⟩
     ·have HE:=zab (zec rb s j _ _ w7 (uh O7).rdr (by omega) hj 125 (.inl h125))
      have HN:Hid (val s i=none):=by
       show _=_
       rw[uh HR,uh HTE,yf h125]; rfl
      clear h125
      go_wp2_with fail
      refine (uh HE).mono ?_
      rintro e w8 ⟨rfl,k8⟩
      exact⟨rfl,(uh O7).kb.trans k8,by rw[uh HN]; rfl⟩
theorem znP {w:World} {B e n:Nat} {v x:Value} {xs:List Value} (h:w.ownsRow B e 1 v (n+1) (xs++[x])) : ∃ g cap,v = .slice (some ⟨g,0,none⟩) (n+1) cap:=by
 rcases h.2 with ⟨_,h0⟩ | ⟨g,cap,cur,hv,_⟩
 ·omega
 ·exact⟨g,cap,hv⟩
theorem zik (rb:Nat) (s:ByteArray) (i:Nat) (tb kt:Bool) (w:World) (h:Rdr rb s i tb kt w) (hs:s.size<=100000) (h91:bt s i=91)
  (HV:∀ (j:Nat) (tb' kt':Bool) (w1:World),i < j->j<=s.size->Rdr rb s j tb' kt' w1->KB rb w w1->Calls prog 127 #[.pointer (some ⟨rb,0,none⟩)] w1 (ze0 rb s tb' kt' w1 ((val s (sk s j)).map fun q=>(q.1,sk s q.2)))) :
  Calls prog 176 #[.pointer (some ⟨rb,0,none⟩)] w (ze0 rb s tb kt w (val s i)):=by
 obtain⟨i0,hi0,hz0,hz1,hz2⟩:=info_parts zmt
 have hlt:=h.lt
 have hi:i < s.size:=zaw (by omega)
 have HVV:=zab (zjW h91)
 have HHV:=zab HV
 have k00:=zaz s (i+1)
 have k01:=(zdG (s:=s) (i:=i+1) (by omega)).2
 have k02:=zqF s (i+1)
 have HEX:=zab (zbO rb s i tb kt _ (h.below (zcU w (zoS (.slice none 0 0)))) (by omega) 91 h91 hi)
 clear h HV h91
 generalize hk0:sk s (i+1)=k0 at *
 go_enter func176,ntmps176
 go_wp2_with fail
 refine (uh HEX).mono ?_
 rintro e w1 ⟨rfl,r1,k1⟩
 have HSK:=zab (zbb rb s (i+1) tb kt w1 r1 (by omega) (by omega))
 have A1:Hid (w1.heap[w.heap.size]?=some (zoS (.slice none 0 0))):=(k1.block w.heap.size (by simp) (by omega)).trans (yG w _)
 have K1:=zab ((KB.of_below (rb:=rb) (zcU w (zoS (.slice none 0 0)))).trans k1)
 have hs1:w.heap.size+1<=w1.heap.size:=by have:=k1.size; simpa using this
 clear HEX r1 k1
 go_wp2_with fail
 refine (uh HSK).mono ?_
 rintro e w2 ⟨rfl,r2,k2⟩
 rw[hk0] at r2
 have A2:Hid (w2.heap[w.heap.size]?=some (zoS (.slice none 0 0))):=(k2.block w.heap.size (by omega) (by omega)).trans (uh A1)
 have K2:=zab ((uh K1).trans k2)
 have hs2:w.heap.size+1<=w2.heap.size:=by have:=k2.size; omega
 have R2:=zab r2
 clear HSK r2 k2 A1 K1 hk0
 by_cases h93:bt s k0=93
 ·have HS:=zab (zcy rb s k0 tb kt w2 (uh R2) (by omega) 93 h93 (zaw (by omega)))
  have HR:Hid (val s i=some (.arr .nil,k0+1)):=by show _=_; rw[uh HVV,yg h93]
  clear h93
  go_wp2_with fail
  refine (uh HS).mono ?_
  rintro e w3 ⟨rfl,r3,k3⟩
  have R3:=zab r3
  have A3:Hid (w3.heap[w.heap.size]?=some (zoS (.slice none 0 0))):=(k3.block w.heap.size (by omega) (by omega)).trans (uh A2)
  have K3:=zab ((uh K2).trans k3)
  have hs3:=k3.size
  clear HS r3 k3
  go_wp2
  go_ret
  refine⟨uh K3,?_⟩
  rw[uh HR]
  refine⟨_,_,rfl,by simp only[zbf,twV,zeG,twL,Bool.or_false]; exact uh R3,fun _ _=>?_⟩
  rw[Rep]
  exact⟨w.heap.size,.slice none 0 0,[],rfl,⟨ye _,by omega⟩,uh A3,⟨⟨rfl,.inl ⟨rfl,rfl⟩⟩,fun g hg=>by cases hg⟩,by rw[zbS]⟩
 ·have HS:=zab (zc0 rb s k0 tb kt w2 (uh R2) k01 93 (.inl h93))
  have hn93:=h93
  have HR:Hid (val s i=(elems s k0).map fun q=>(.arr q.1,q.2)):=by show _=_; rw[uh HVV,yf h93]
  clear h93
  go_wp2_with fail
  refine (uh HS).mono ?_
  rintro e w3 ⟨rfl,r3,k3⟩
  have A3:Hid (w3.heap[w.heap.size]?=some (zoS (.slice none 0 0))):=(k3.block w.heap.size (by omega) (by omega)).trans (uh A2)
  have K3:=zab ((uh K2).trans k3)
  have hs3:=k3.size
  have KD:KB rb w w3.drew:=⟨(uh K3).os,(uh K3).tape,(uh K3).output,(uh K3).size,(uh K3).block⟩
  have HC:=zab (uh HHV k0 tb kt w3.drew (by omega) k01 r3 KD)
  rw[k02] at HC
  have HAST:Hid (ASt rb s tb kt w k0 .nil (.slice none 0 0) [] w3.drew):=⟨by simp only[zeG,twL,Bool.or_false]; exact r3,uh A3,⟨rfl,.inl ⟨rfl,rfl⟩⟩,KD,by show _<=w3.heap.size; omega,fun _ _=>by rw[zbS]⟩
  have ci:w3.drew.cell? ⟨w.heap.size,0,none⟩=some (.slice none 0 0):=yF (uh A3) 0
  have hsd:w.heap.size+1<=w3.drew.heap.size:=by show _<=w3.heap.size; omega
  clear HS k3 A2 K2 R2 hn93
  cases hv:val s k0 with
  | none=>
   rw[hv] at HC
   have HN:Hid (val s i=none):=by show _=_; rw[uh HR,zdK,hv]; rfl
   clear hv
   go_wp2_with fail
   refine wp_region_any (by kernel_rfl) ?_
   try (change wpAny _ _ _ _ _ _ _ (World.drew _))
   refine wpAny_take (i:=0) (v:=?_) rfl (by kernel_rfl) (by kernel_rfl) (by kernel_rfl) (fun _ _ _ h=>h) (Or.inl ⟨by rfl,?_⟩) ?_
   rotate_left 1
   ·intro w
    go_simp
    try with_reducible rfl
   refine wpAny_take (i:=1) (v:=?_) rfl (by kernel_rfl) (by kernel_rfl) (by kernel_rfl) (fun _ _ _ h=>h) (Or.inl ⟨by rfl,?_⟩) ?_
   rotate_left 1
   ·intro w
    go_simp
    try with_reducible rfl
   refine wpAny_take (i:=2) (v:=?_) rfl (by kernel_rfl) (by kernel_rfl) (by kernel_rfl) (fun _ _ _ h=>h) (Or.inl ⟨by rfl,?_⟩) ?_
   rotate_left 1
   ·intro w
    go_simp
    try with_reducible rfl
   refine wpAny_take (i:=3) (v:=?_) rfl (by kernel_rfl) (by kernel_rfl) (by kernel_rfl) (fun _ _ _ h=>h) (Or.inl ⟨by rfl,?_⟩) ?_
   rotate_left 1
   ·intro w
    go_simp
    try with_reducible rfl
   refine wpAny_take (i:=5) (v:=?_) rfl (by kernel_rfl) (by kernel_rfl) (by kernel_rfl) (fun _ _ _ h=>h) (Or.inl ⟨by rfl,?_⟩) ?_
   rotate_left 1
   ·intro w
    go_simp
    try with_reducible rfl
   refine wpAny_ready (rs:=[4,6]) (by kernel_rfl) (by simp) ?_
   refine AllReady.cons rfl (fun K hK=>?_) ?_
   ·go_simp
    refine hK _ _ ?_
    clear hK K
    refine wpAny_ready (rs:=[6]) (by kernel_rfl) (by simp) ?_
    refine AllReady.cons rfl (fun K hK=>?_) AllReady.nil
    go_simp
    refine (uh HC).mono ?_
    rintro e w9 ⟨k9,rfl⟩
    exact⟨rfl,KD.trans k9,by rw[uh HN]; rfl⟩
   ·refine AllReady.cons rfl (fun K hK=>?_) AllReady.nil
    go_simp
    refine (uh HC).mono ?_
    rintro e w9 ⟨k9,rfl⟩
    exact⟨rfl,KD.trans k9,by rw[uh HN]; rfl⟩
  | some q=>
   obtain⟨v,n⟩:=q
   have hvo:=zeV hv
   have HEL:=zab (ziL hv)
   have hn1:=zaz s n
   have hn2:=(zdG hvo.2).2
   rw[hv] at HC
   have HC:Hid (Calls prog 127 #[.pointer (some ⟨rb,0,none⟩)] w3.drew (ze0 rb s (tb || zeG .nil) (kt || twL .nil) w3.drew (some (v,sk s n)))):=by
    show Calls _ _ _ _ _
    simp only[zeG,twL,Bool.or_false]
    exact uh HC
   clear hv A3 K3 HVV
   have hxl:([] : List Value).length<=k0:=yt _
   go_wp2_with fail
   go_cut [] from 18 to 28 (fun wx=>∃ (v5:Value) (x5:List Value),ASt rb s tb kt w (sk s n) (.cons v .nil) v5 x5 wx/\x5.length<=sk s n)
   case first=>
    go_region_law (first
     | (go_simp; refine (uh HC).mono ?_; rintro e w4 ⟨k4, t, p, rfl, r4, hrep⟩
        have hs4:=k4.size
        have a4:w4.heap[w.heap.size]?=some (zoS (Value.slice none 0 0)):=(k4.block w.heap.size (by omega) (by omega)).trans (uh HAST).2.1
        have c4:w4.cell? ⟨w.heap.size,0,none⟩=some (Value.slice none 0 0):=yF a4 0
        have ca4:(w4.alloc (.cells #[.iface t p] 66)).cell? ⟨w.heap.size,0,none⟩=some (Value.slice none 0 0):=((zcU w4 _).cell (p:=⟨w.heap.size,0,none⟩) (by show w.heap.size < _; omega)).trans c4
        have hne4:¬ w.heap.size=w4.heap.size:=by omega
        have own4:=zkO (uh HAST).2.2.1 k4 (show rb < w.heap.size+1 by omega)
        have HR4:=zab r4
        have HREP:=zab hrep
        have HA4:=zab a4
        clear r4 hrep a4)
     | (refine zeP rfl (.tmp 22) (.tmp 25) 153 rfl (w.heap.size + 1) 66 i0 .nilIface 1 16 underlying153 hi0 hz0 hz1 hz2 rfl (by decide) _ _ _ rfl (by exact own4.alloc _) ⟨w4.heap.size, 0, none⟩ 1 1 [.iface t p] rfl rfl (by exact cell_one_new _ _ _) (by intro u hu; simp at hu; subst hu; rfl) (by unfold maxLen; omega) (by omega) (by simp; omega) ?_
        intro v5 w5 own5 hg5 hat5
        obtain⟨g5,cap5,hv5⟩:=znP own5
        subst hv5
        have hne:some w.heap.size≠((Value.slice none 0 0)).ownBlock:=fun e=>by have:=((uh HAST).2.2.1.lt _ e.symm).1; omega
        have a5:w5.heap[w.heap.size]?=some (zoS (Value.slice none 0 0)):=(hg5.block w.heap.size (by simp; omega) hne).trans ((Lib.alloc_old w4 _ w.heap.size (by omega)).trans (uh HA4))
        have c5:w5.cell? ⟨w.heap.size,0,none⟩=some (Value.slice none 0 0):=yF a5 0
        have f5:w5.frozen? ⟨w.heap.size,0,none⟩=false:=yI a5 0))
    all_goals
     have HS5:=zab (ASt.step hlt (uh HAST) k4 (uh HR4) (uh HREP) own5 hg5 hat5)
     go_wp2_with fail
     go_meet
     exact⟨_,_,uh HS5,by rw[yh]; simp only[yn,yD]; omega⟩
   case rest=>
    obtain⟨sv,xs,hast,hxl2⟩:=hcut
    have HA0:=zab hast
    clear hast HC HAST KD ci r3
    go_wp2_with fail
    go_loopg [] (s.size+1 - sk s n) (fun g wr=>∃ (j:Nat) (acc:JL) (sv:Value) (xs:List Value),g=s.size+1 - j/\j<=s.size/\k0 < j/\xs.length<=j/\ASt rb s tb kt w j acc sv xs wr/\elems s k0=(zqG s j).map fun q=>(acc.app q.1,q.2))
    case atStart=>exact⟨sk s n,.cons v .nil,sv,xs,rfl,hn2,by omega,hxl2,uh HA0,by rw[uh HEL]; rfl⟩
    case round=>
     obtain⟨j,acc,sv,xs,hg,hj,hj0,hxl,hast,hst⟩:=hrel
     have HST:=zab hst
     have HAW:=zab hast
     have hsw:=hast.2.2.2.2.1
     clear hst hast HA0 HEL hvo hn1 hn2
     by_cases h44:bt s j=44
     ·have hjl:j < s.size:=zaw (by omega)
      have HS:=zab (zcy rb s j _ _ wr (uh HAW).1 (by omega) 44 h44 hjl)
      have HTE:Hid (elems s k0=(elems s (sk s (j+1))).map fun q=>(acc.app q.1,q.2)):=by
       show _=_
       rw[uh HST,zqG,yf (by omega),yg h44]
      clear h44 HST
      go_wp2_with fail
      refine (uh HS).mono ?_
      rintro e w7 ⟨rfl,r7,k7⟩
      have hs7:=k7.size
      have KW:=(uh HAW).2.2.2.1
      have KD:KB rb w w7.drew:=⟨(KW.trans k7).os,(KW.trans k7).tape,(KW.trans k7).output,(KW.trans k7).size,(KW.trans k7).block⟩
      have HAST:Hid (ASt rb s tb kt w (j+1) acc sv xs w7.drew):=by
       obtain⟨_,q2,q3,q4,q5,q6⟩:=uh HAW
       refine⟨r7,(k7.block w.heap.size (by omega) (by omega)).trans q2,zkO (w1:=w7) q3 k7 (show rb < w.heap.size+1 by omega),KD,by show _<=w7.heap.size; omega,fun a b=>?_⟩
       exact zbS.keep (w:=wr) (w':=w7.drew) (S:=AS w.heap.size sv wr) (S':=AS w.heap.size sv w7.drew) (fun b hb=>k7.block b hb.2.1 (by have:=hb.1; omega)) (fun b hb=>⟨hb.1,by show b < w7.heap.size; have:=hb.2.1; omega,hb.2.2⟩) acc xs (q6 a b)
      have HC:=zab (uh HHV (j+1) _ _ w7.drew (by omega) (by omega) r7 KD)
      have ci:w7.drew.cell? ⟨w.heap.size,0,none⟩=some sv:=yF (uh HAST).2.1 0
      have hsd:w.heap.size+1<=w7.drew.heap.size:=by show _<=w7.heap.size; omega
      have hsj:=zaz s (j+1)
      clear HS k7 HAW KW r7
      cases hv:val s (sk s (j+1)) with
      | none=>
       rw[hv] at HC
       have HN:Hid (val s i=none):=by show _=_; rw[uh HR,uh HTE,zdK,hv]; rfl
       clear hv
       go_wp2_with fail
       refine wp_region_any (by kernel_rfl) ?_
       try (change wpAny _ _ _ _ _ _ _ (World.drew _))
       refine wpAny_take (i:=0) (v:=?_) rfl (by kernel_rfl) (by kernel_rfl) (by kernel_rfl) (fun _ _ _ h=>h) (Or.inl ⟨by rfl,?_⟩) ?_
       rotate_left 1
       ·intro w
        go_simp
        try with_reducible rfl
       refine wpAny_take (i:=1) (v:=?_) rfl (by kernel_rfl) (by kernel_rfl) (by kernel_rfl) (fun _ _ _ h=>h) (Or.inl ⟨by rfl,?_⟩) ?_
       rotate_left 1
       ·intro w
        go_simp
        try with_reducible rfl
       refine wpAny_take (i:=2) (v:=?_) rfl (by kernel_rfl) (by kernel_rfl) (by kernel_rfl) (fun _ _ _ h=>h) (Or.inl ⟨by rfl,?_⟩) ?_
       rotate_left 1
       ·intro w
        go_simp
        try with_reducible rfl
       refine wpAny_take (i:=3) (v:=?_) rfl (by kernel_rfl) (by kernel_rfl) (by kernel_rfl) (fun _ _ _ h=>h) (Or.inl ⟨by rfl,?_⟩) ?_
       rotate_left 1
       ·intro w
        go_simp
        try with_reducible rfl
       refine wpAny_take (i:=5) (v:=?_) rfl (by kernel_rfl) (by kernel_rfl) (by kernel_rfl) (fun _ _ _ h=>h) (Or.inl ⟨by rfl,?_⟩) ?_
       rotate_left 1
       ·intro w
        go_simp
        try with_reducible rfl
       refine wpAny_ready (rs:=[4,6]) (by kernel_rfl) (by simp) ?_
       refine AllReady.cons rfl (fun K hK=>?_) ?_
       ·go_simp
        refine hK _ _ ?_
        clear hK K
        refine wpAny_ready (rs:=[6]) (by kernel_rfl) (by simp) ?_
        refine AllReady.cons rfl (fun K hK=>?_) AllReady.nil
        go_simp
        refine (uh HC).mono ?_
        rintro e w9 ⟨k9,rfl⟩
        exact⟨rfl,KD.trans k9,by rw[uh HN]; rfl⟩
       ·refine AllReady.cons rfl (fun K hK=>?_) AllReady.nil
        go_simp
        refine (uh HC).mono ?_
        rintro e w9 ⟨k9,rfl⟩
        exact⟨rfl,KD.trans k9,by rw[uh HN]; rfl⟩
      | some q=>
       obtain⟨v2,n⟩:=q
       have hvo:=zeV hv
       have HEL:=zab (ziL hv)
       have hn1:=zaz s n
       have hn2:=(zdG hvo.2).2
       rw[hv] at HC
       clear hv
       go_wp2_with fail
       go_region_law (first
        | (go_simp; refine (uh HC).mono ?_; rintro e w4 ⟨k4, t, p, rfl, r4, hrep⟩
           have hs4:=k4.size
           have a4:w4.heap[w.heap.size]?=some (zoS sv):=(k4.block w.heap.size (by omega) (by omega)).trans (uh HAST).2.1
           have c4:w4.cell? ⟨w.heap.size,0,none⟩=some sv:=yF a4 0
           have ca4:(w4.alloc (.cells #[.iface t p] 66)).cell? ⟨w.heap.size,0,none⟩=some sv:=((zcU w4 _).cell (p:=⟨w.heap.size,0,none⟩) (by show w.heap.size < _; omega)).trans c4
           have hne4:¬ w.heap.size=w4.heap.size:=by omega
           have own4:=zkO (uh HAST).2.2.1 k4 (show rb < w.heap.size+1 by omega)
           have HR4:=zab r4
           have HREP:=zab hrep
           have HA4:=zab a4
           clear r4 hrep a4)
        | (refine zeP rfl (.tmp 37) (.tmp 40) 153 rfl (w.heap.size + 1) 66 i0 .nilIface 1 16 underlying153 hi0 hz0 hz1 hz2 rfl (by decide) _ _ _ rfl (by exact own4.alloc _) ⟨w4.heap.size, 0, none⟩ 1 1 [.iface t p] rfl rfl (by exact cell_one_new _ _ _) (by intro u hu; simp at hu; subst hu; rfl) (by unfold maxLen; omega) (by omega) (by simp; omega) ?_
           intro v5 w5 own5 hg5 hat5
           obtain⟨g5,cap5,hv5⟩:=znP own5
           subst hv5
           have hne:some w.heap.size≠(sv).ownBlock:=fun e=>by have:=((uh HAST).2.2.1.lt _ e.symm).1; omega
           have a5:w5.heap[w.heap.size]?=some (zoS sv):=(hg5.block w.heap.size (by simp; omega) hne).trans ((Lib.alloc_old w4 _ w.heap.size (by omega)).trans (uh HA4))
           have c5:w5.cell? ⟨w.heap.size,0,none⟩=some sv:=yF a5 0
           have f5:w5.frozen? ⟨w.heap.size,0,none⟩=false:=yI a5 0))
       all_goals
        have HS5:=zab (ASt.step hlt (uh HAST) k4 (uh HR4) (uh HREP) own5 hg5 hat5)
        clear HR4 HREP HA4 own4 c4 own5 hg5 hat5 a5 k4 HC HAST KD ci
        go_wp2
        go_roundg (s.size+1 - sk s n)
       all_goals first
        | omega
        | exact⟨sk s n,acc.app (.cons v2 .nil),_,_,rfl,hn2,by omega,by rw[yh]; simp only[yn,yD]; omega,uh HS5,by rw[uh HTE,uh HEL,Option.map_map]; congr 1; funext q; simp[JL.app_assoc,JL.app]⟩
     ·have HS:=zab (zc0 rb s j _ _ wr (uh HAW).1 hj 44 (.inl h44))
      have HTE:Hid (elems s k0=(if bt s j=93 then some (JL.nil,j+1) else none).map fun q=>(acc.app q.1,q.2)):=by
       show _=_
       rw[uh HST,zqG]
       by_cases g:bt s j=93
       ·rw[yg g,yg g]
       ·rw[yf g,yf h44,yf g]
      clear h44 HST
      go_wp2_with fail
      refine (uh HS).mono ?_
      rintro e w7 ⟨rfl,r7,k7⟩
      have hs7:=k7.size
      obtain⟨_,q2,q3,q4,q5,q6⟩:=uh HAW
      have A7:=zab ((k7.block w.heap.size (by omega) (by omega)).trans q2)
      have O7:=zab (zkO q3 k7 (show rb < w.heap.size+1 by omega))
      have K7:=zab (q4.trans k7)
      have Q7:Hid (zeG acc=false->twL acc=false->zbS w7 (AS w.heap.size sv w7) acc xs):=fun a b=>zbS.keep (fun b hb=>k7.block b hb.2.1 (by have:=hb.1; omega)) (fun b hb=>⟨hb.1,by have:=hb.2.1; omega,hb.2.2⟩) acc xs (q6 a b)
      have R7:=zab r7
      clear q2 q3 q4 q5 q6 HS HAW r7 k7
      by_cases h93:bt s j=93
      ·have HE:=zab (zbO rb s j _ _ w7 (uh R7) (by omega) 93 h93 (zaw (by omega)))
       have HN:Hid (val s i=some (.arr acc,j+1)):=by
        show _=_
        rw[uh HR,uh HTE,yg h93]; simp[JL.app_nil]
       clear h93
       go_wp2_with fail
       refine (uh HE).mono ?_
       rintro e w8 ⟨rfl,r8,k8⟩
       have hs8:=k8.size
       have R8:=zab r8
       have A8:=zab ((k8.block w.heap.size (by omega) (by omega)).trans (uh A7))
       have O8:=zab (zkO (uh O7) k8 (show rb < w.heap.size+1 by omega))
       have K8:=zab ((uh K7).trans k8)
       have Q8:Hid (zeG acc=false->twL acc=false->zbS w8 (AS w.heap.size sv w8) acc xs):=fun a b=>zbS.keep (fun b hb=>k8.block b hb.2.1 (by have:=hb.1; omega)) (fun b hb=>⟨hb.1,by have:=hb.2.1; omega,hb.2.2⟩) acc xs (uh Q7 a b)
       clear HE r8 k8 A7 O7 K7 Q7 R7
       go_wp2
       go_ret
       refine⟨uh K8,?_⟩
       rw[uh HN]
       refine⟨_,_,rfl,by simp only[zbf,twV]; exact uh R8,fun a b=>?_⟩
       rw[Rep]
       simp only[zbf] at a
       simp only[twV] at b
       exact⟨w.heap.size,sv,xs,rfl,⟨ye _,by omega⟩,uh A8,⟨zaC (uh O8) (yt _),fun g hg=>⟨by have:=((uh O8).lt g hg).1; omega,((uh O8).lt g hg).2⟩⟩,zbS.keep (fun _ _=>rfl) (fun b hb=>⟨by have:=hb.1; omega,hb.2.1⟩) acc xs (uh Q8 a b)⟩
      ·have HE:=zab (zec rb s j _ _ w7 (uh R7) (by omega) hj 93 (.inl h93))
       have HN:Hid (val s i=none):=by
        show _=_
        rw[uh HR,uh HTE,yf h93]; rfl
       clear h93
       go_wp2_with fail
       refine (uh HE).mono ?_
       rintro e w8 ⟨rfl,k8⟩
       exact⟨rfl,(uh K7).trans k8,by rw[uh HN]; rfl⟩
theorem zil (rb:Nat) (s:ByteArray) (hs:s.size<=100000) (B:Nat) (hB:B<=rb) : ∀ (n i:Nat) (tb kt:Bool) (w:World),s.size - i<=n->Rdr rb s i tb kt w->i<=s.size->zb2 B w->zhj B w ->
  Calls prog 127 #[.pointer (some ⟨rb,0,none⟩)] w (ze0 rb s tb kt w ((val s (sk s i)).map fun q=>(q.1,sk s q.2))):=by
 intro n
 induction n with
 | zero=>
  intro i tb kt w hn h hi hT hE
  have hlt:=h.lt
  have g:=zaz s i
  refine znO rb s i tb kt w h hs hi fun w1 r1 k1=>zkN rb s (sk s i) tb kt w1 r1 hs (zdG hi).2 B (hT.next (k1.below hB (by omega)) (ye _)) (hE.next (k1.below hB (by omega)) (ye _)) hB ?_ ?_
  ·intro w2 r2 k2 hb; have:=zaw (s:=s) (i:=sk s i) (by omega); omega
  ·intro w2 r2 k2 hb; have:=zaw (s:=s) (i:=sk s i) (by omega); omega
 | succ n ih=>
  intro i tb kt w hn h hi hT hE
  have hlt:=h.lt
  have g:=zaz s i
  refine znO rb s i tb kt w h hs hi fun w1 r1 k1=>?_
  have T1:=hT.next (k1.below hB (by omega)) (ye _)
  have E1:=hE.next (k1.below hB (by omega)) (ye _)
  have hs1:=k1.size
  refine zkN rb s (sk s i) tb kt w1 r1 hs (zdG hi).2 B T1 E1 hB ?_ ?_
  ·intro w2 r2 k2 hb
   have hs2:=k2.size
   refine zik rb s (sk s i) tb kt w2 r2 hs hb fun j tb' kt' w3 hj hjs r3 k3=>?_
   exact ih j tb' kt' w3 (by omega) r3 hjs (T1.next ((k2.trans k3).below hB (by omega)) (ye _)) (E1.next ((k2.trans k3).below hB (by omega)) (ye _))
  ·intro w2 r2 k2 hb
   have hs2:=k2.size
   refine zhn rb s (sk s i) tb kt w2 r2 hs hb B (T1.next (k2.below hB (by omega)) (ye _)) hB fun j tb' kt' w3 hj hjs r3 k3=>?_
   exact ih j tb' kt' w3 (by omega) r3 hjs (T1.next ((k2.trans k3).below hB (by omega)) (ye _)) (E1.next ((k2.trans k3).below hB (by omega)) (ye _))
end Go.Proofs.YtekpghcckdjnhaaGreatDoor
namespace Go.Proofs.YtekpghcckdjnhaaGreatDoor
open Go.RowKit Go.Lib Go.Proofs.Tryz
structure VR (w:World) (a:Option Addr) (g off:Nat) (xs:List Value) : Prop where
 ad:0 < xs.length->a=some ⟨g,off,none⟩
 cell:∀ j (h:j < xs.length),w.cell? ⟨g,off+j,none⟩=some xs[j]
theorem VR.below {w w':World} {a:Option Addr} {g off:Nat} {xs:List Value} (h:VR w a g off xs) (hb:Below w.heap.size w w') : VR w' a g off xs:=
 ⟨h.ad,fun j hj=>(hb.cell (p:=⟨g,off+j,none⟩) (yJ _ _ (h.cell j hj))).trans (h.cell j hj)⟩
theorem zcV {w:World} {ops:Array Oper} {rest:List Oper} {o:Oper} {ac:Act} {Q:Exit->Act->World->Prop} (hg:o.guard=none) (s x:Operand)
  (ho:o.op = .call { callee:=.builtin .append,args:=#[s,x],argTypes:=#[153,153] }) {B:Nat} {v:Value} {xs us:List Value} {a:Option Addr} {g off cap:Nat} (hs:ac.eval s=v) (hx:ac.eval x = .slice a us.length cap)
  (h:w.ownsRow B 66 1 v xs.length xs) (k:VR w a g off us) (hcap:a=none->cap=0) (h1:∀ u∈us,u.oneCell'=true) (hB:B<=w.heap.size) (hl:xs.length+us.length<=1000000)
  (hK:∀ v' w',w'.ownsRow B 66 1 v' (xs.length+us.length) (xs++us)->w.grownBy w' v.ownBlock->wpList prog ops Q rest (ac.put o.dst v') w') : wpList prog ops Q (o :: rest) ac w:=by
 obtain⟨i0,hi,hz0,hz1,hz2⟩:=info_parts zmt
 cases a with
 | none=>
  have h0:us=[]:=by
   cases us with
   | nil=>rfl
   | cons u r=>have:=k.ad (by simp); cases this
  subst h0
  obtain rfl:=hcap rfl
  refine wpList_append_own_none hg s x 153 ho B 66 i0 1 underlying153 hi v _ _ hs h hx ?_
  exact hK v w (by rw[List.append_nil]; exact h) (World.grownBy.refl _ _)
 | some ad=>
  have hcell:∀ j u,us[j]?=some u->w.cell? (ad.add j)=some u:=fun j u hu=>by
   obtain⟨hj,e⟩:=List.getElem?_eq_some_iff.1 hu
   have h0:=k.ad (Nat.lt_of_le_of_lt (yt j) hj)
   have h00:ad=⟨g,off,none⟩:=Option.some.inj h0
   rw[← e,h00,Addr.add_lit]
   exact k.cell j hj
  refine wpList_append_own _ hg s x 153 ho B 66 i0 .nilIface 1 16 underlying153 hi hz0 hz1 hz2 rfl (by decide) v _ _ hs h ad us.length cap us hx (by simp) hcell h1 (by unfold maxLen; omega) (by omega) hB ?_
  intro v' w' h2 h3 _
  exact hK v' w' h2 h3
theorem zqJ (n:Nat) (w:World) (hn:n<=1000000) :
  Calls prog 282 #[.slice none 0 0,.int .i64 (n:Int)] w fun e w'=>∃ r,e = .returned r/\w'.ownsRow w.heap.size 66 1 r 0 []/\Below w.heap.size w w':=by
 obtain⟨i0,hi0,hz0,hz1,hz2⟩:=info_parts zmt
 by_cases h0:n=0
 ·subst h0
  go_enter func282,ntmps282
  go_wp2
  go_ret
  exact⟨_,rfl,World.ownsRow_nil w w.heap.size 66 1,yH _ _⟩
 ·have hpos:(0:Int) < (n:Int):=by omega
  have hnn:¬ (n:Int) < 0:=by omega
  have hold:(Builtin.firstCells i0.size 0 (.slice none 0 0)).run prog w.drew = .ok (([] : List Value).toArray) w.drew:=run_firstCells_none w.drew i0.size 0 0 0
  have hrz:∀ ty,(Builtin.append_ #[153,3] ty #[.slice none 0 0,.int .i64 (n:Int)]).run prog w =
    .ok (.slice (some ⟨w.heap.size,0,none⟩) n (grownCap w n 0 66)) (w.drew.alloc (.cells (([] : List Value).toArray++Builtin.zeroCells (Value.nilIface).cells n++Builtin.zeroCells (Value.nilIface).cells (grownCap w n 0 66 - n)) 66)):=fun ty=>by
   have h:=Lib.run_append_grow_zeros w 153 3 ty 66 i0 .nilIface .i64 .i64 underlying153 underlying3 hi0 hz0 none 0 0 [] hold n (by omega) (by omega) (by omega) (by omega)
    (by rw[hz2]; omega)
    (by rw[Nat.zero_add]; exact growslice_fits (by omega) (by rw[hz2]; omega))
   rw[Nat.zero_add] at h
   exact h
  have hGn:n<=grownCap w n 0 66:=grownCap_ge w _ _ _
  have hGm:grownCap w n 0 66<=maxLen:=grownCap_le_maxLen w n 0 66 (by unfold maxLen; omega)
  obtain⟨G,hG⟩ : ∃ G,G=grownCap w n 0 66:=⟨_,rfl⟩
  rw[← hG] at hrz hGn hGm
  have hG63:G<=9223372036854775807:=by unfold maxLen at hGm; omega
  have HO:Hid ((w.alloc (.cells (Builtin.zeroCells #[Value.nilIface] n++Builtin.zeroCells #[Value.nilIface] (G - n)) 66)).drew.ownsRow w.heap.size 66 1 (.slice (some ⟨w.heap.size,0,none⟩) 0 G) 0 []):=by
   refine⟨rfl,.inr ⟨w.heap.size,G,_,rfl,ye _,yG w _,yt _,hGm,?_,rfl⟩⟩
   rw[Array.size_append,size_zeroCells,size_zeroCells]
   simp
   omega
  have HB:Hid (Below w.heap.size w (w.alloc (.cells (Builtin.zeroCells #[Value.nilIface] n++Builtin.zeroCells #[Value.nilIface] (G - n)) 66)).drew):=((yH _ _).alloc (ye _) _).drew
  clear hold hG
  go_enter func282,ntmps282
  go_wp2_with (at_builtin; refine Lib.wpList_append_run _ rfl _ _ _ _ rfl _ _ rfl rfl _ _ (hrz _) ?_)
  all_goals (go_ret; exact⟨_,rfl,uh HO,uh HB⟩)
structure VS where
 a:Option Addr
 g:Nat
 off:Nat
 cap:Nat
 us:List Value
def VS.Ok (w:World) (s:VS) : Prop:=VR w s.a s.g s.off s.us/\(∀ u∈s.us,u.oneCell'=true)/\(s.a=none->s.cap=0)
def zbK (L:List VS) : List Value:=L.flatMap VS.us
theorem zez {L:List VS} {k:Nat} (h:k < L.length) : zbK (L.take (k+1))=zbK (L.take k)++L[k].us:=by
 unfold zbK
 rw[yy h,List.flatMap_append,List.flatMap_singleton]
theorem zkQ {L:List VS} {k:Nat} (h:k < L.length) : (zbK (L.take k)).length+L[k].us.length<=(zbK L).length:=by
 have e:L=L.take (k+1)++L.drop (k+1):=(List.take_append_drop _ _).symm
 have:(zbK L).length=(zbK (L.take (k+1))).length+(zbK (L.drop (k+1))).length:=by
  unfold zbK
  rw[← yh,← List.flatMap_append,← e]
 rw[this,zez h,yh]
 omega
theorem zgn (L:List VS) (gb:Nat) (w:World) (hc:∀ j (h:j < L.length),w.cell? ⟨gb,j,none⟩=some (.slice L[j].a L[j].us.length L[j].cap)) (hok:∀ s∈L,VS.Ok w s) (hl:(zbK L).length<=1000000) (hn:L.length<=1000) :
  Calls prog 267 #[.slice (some ⟨gb,0,none⟩) L.length L.length] w fun e w'=>∃ r,e = .returned r/\w'.ownsRow w.heap.size 66 1 r (zbK L).length (zbK L)/\Below w.heap.size w w':=by
 have HC:=zab hc
 have HOK:=zab hok
 clear hc hok
 go_enter func267,ntmps267
 go_wp2
 go_loopw [3,11] (fun z i wr=>∃ k:Nat,k<=L.length/\z = .int .i64 ((zbK (L.take k)).length:Int)/\i = .int .i64 (k:Int)/\w=wr) (fun _ i _=>L.length - (RowKit.intOf i).toNat)
 case atStart=>exact⟨0,yt _,by simp[zbK],rfl,rfl⟩
 case round=>
  obtain⟨k,hk,rfl,rfl,rfl⟩:=hrel
  by_cases hlt:k < L.length
  ·have hltI:(k:Int) < (L.length:Int):=by omega
   have ck:=uh HC k hlt
   have hs:=zkQ hlt
   have e1:Hid (zbK (L.take (k+1))=zbK (L.take k)++L[k].us):=zez hlt
   have t1:¬ ((zbK (L.take k)).length:Int)+(L[k].us.length:Int) < 0:=by omega
   generalize hP:(zbK (L.take k)).length=P at *
   generalize hU:L[k].us.length=U at *
   have HE:=zab (show (zbK (L.take (k+1))).length=P+U by rw[uh e1,yh,hP,hU])
   clear hP hU e1
   go_wp2
   go_roundw
   case rel=>exact⟨k+1,by omega,by rw[uh HE]; go_num,by go_num,trivial⟩
   case measure=>simp[RowKit.intOf]; omega
  ·have hk':L.take k=L:=yq (by omega)
   have hkI:¬ (k:Int) < (L.length:Int):=by omega
   rw[hk']
   have HG:=zab (zqJ (zbK L).length w (by omega))
   go_wp2_with fail
   refine (uh HG).mono ?_
   rintro e w2 ⟨r,rfl,o2,b2⟩
   have HO2:=zab o2
   have HB2:=zab b2
   clear HG o2 b2
   go_wp2
   go_loopw [6,27] (fun r i wr=>∃ k:Nat,k<=L.length/\i = .int .i64 (k:Int)/\wr.ownsRow w.heap.size 66 1 r (zbK (L.take k)).length (zbK (L.take k))/\Below w.heap.size w wr) (fun _ i _=>L.length - (RowKit.intOf i).toNat)
   case atStart=>exact⟨0,yt _,rfl,by simpa [zbK] using uh HO2,uh HB2⟩
   case round=>
    obtain⟨k,hk,rfl,ho,hb⟩:=hrel
    have hbz:=hb.size
    have HBR:=zab hb
    have HO:=zab ho
    by_cases hlt:k < L.length
    ·have hltI:(k:Int) < (L.length:Int):=by omega
     have ck:=(hb.cell (p:=⟨gb,k,none⟩) (yJ _ _ (uh HC k hlt))).trans (uh HC k hlt)
     have hs:=zkQ hlt
     have HS:=zab (uh HOK L[k] (yr hlt))
     have HVR:=zab ((uh HS).1.below hb)
     clear hb ho
     go_wp2_with (at_builtin; refine zcV rfl (.tmp 31) (.tmp 32) rfl rfl rfl (uh HO) (uh HVR) (uh HS).2.2 (uh HS).2.1 hbz (by omega) ?_)
     intro l4 w4 o4 g4
     have HB4:=zab ((uh HBR).grown g4 hbz (fun b hb=>((uh HO).lt b hb).1))
     have e2:(zbK (L.take k)).length+L[k].us.length=(zbK (L.take (k+1))).length:=by rw[zez hlt,yh]
     rw[← zez hlt,e2] at o4
     have HO4:=zab o4
     clear o4 g4 ck e2
     go_wp2
     go_roundw
     case rel=>exact⟨k+1,by omega,by go_num,uh HO4,uh HB4⟩
     case measure=>simp[RowKit.intOf]; omega
    ·have hkI:¬ (k:Int) < (L.length:Int):=by omega
     have hk':L.take k=L:=yq (by omega)
     rw[hk'] at ho
     have HOO:=zab ho
     clear hb ho HO hk'
     go_wp2
     go_ret
     exact⟨_,rfl,uh HOO,uh HBR⟩
theorem zmu (a:Addr) (g off cap:Nat) (us:List Value) (w:World) (hv:VR w (some a) g off us) (h1:∀ u∈us,u.oneCell'=true) (hl:us.length<=1000000) :
  Calls prog 271 #[.slice (some a) us.length cap] w fun e w'=>∃ r,e = .returned r/\w'.ownsRow w.heap.size 66 1 r us.length us/\Below w.heap.size w w':=by
 have HV:=zab hv
 have H1:=zab h1
 clear hv h1
 have q:∀ (w:World) (a:Option Addr) (n c n' c':Nat),(binOp .eql 153 (.slice a n c) (.slice none n' c')).run prog w = .ok (.bool a.isNone) w:=fun w a n c n' c'=>Lib.run_eql_slice_nil w _ _ a n c n' c' underlying153
 have HA:Hid (Below w.heap.size w (w.alloc (.cells #[] 66))):=(yH _ _).alloc (ye _) _
 have HO:Hid ((w.alloc (.cells #[] 66)).ownsRow w.heap.size 66 1 (.slice (some ⟨w.heap.size,0,none⟩) 0 0) ([] : List Value).length []):=World.ownsRow_made w #[] 0 (ye _) (yt _) rfl
 have HZ:Hid (w.heap.size<=(w.alloc (.cells #[] 66)).heap.size):=by show _<=_; simp
 go_enter func271,ntmps271
 go_wp2_with (at_builtin; refine zcV rfl (.tmp 5) (.tmp 6) rfl rfl rfl (uh HO) ((uh HV).below (uh HA)) (fun h=>by cases h) (uh H1) (uh HZ) (by simp; omega) ?_)
 intro v' w1 hown hgrow
 have HB1:=zab ((uh HA).grown hgrow (uh HZ) (by intro k hk; simp[Value.ownBlock] at hk; omega))
 have HO1:Hid (w1.ownsRow w.heap.size 66 1 v' us.length us):=zab (by simpa using hown)
 clear hown hgrow
 go_wp2
 go_ret
 exact⟨v',rfl,uh HO1,uh HB1⟩
end Go.Proofs.YtekpghcckdjnhaaGreatDoor
