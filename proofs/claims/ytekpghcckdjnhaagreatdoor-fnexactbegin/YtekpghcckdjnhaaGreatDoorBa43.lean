import Derived.Test.YtekpghcckdjnhaaGreatDoorBa24
import Derived.Test.YtekpghcckdjnhaaGreatDoorBa40
import Derived.Test.YtekpghcckdjnhaaGreatDoorBa41
import Derived.Test.YtekpghcckdjnhaaGreatDoorBa42
set_option maxRecDepth 100000
set_option maxHeartbeats 8000000
namespace Go.Proofs.YtekpghcckdjnhaaGreatDoor
open Go.RowKit Go.Proofs.Tryz
structure Bg where
 ops:List POp
 base:Int
 doc:ByteArray
 kind:Int
 code:Int
 pos:Int
def bg0:Bg:=⟨[],0,⟨#[]⟩,0,0,0⟩
def bgA (no:Int) (a:ByteArray×Int×Int) (ops:List POp) : Bg:=if a.2.1=0 then ⟨ops,no,a.1,1,0,0⟩ else ⟨[],0,⟨#[]⟩,5,a.2.1,a.2.2⟩
def bgD (m:Ver) (d:List POp×Int×Int) : Bg:=if d.2.1=0 then bgA m.no (apR m.doc d.1) d.1 else ⟨[],0,⟨#[]⟩,6,d.2.1,d.2.2⟩
def bgR (vs:List Ver) (s:ByteArray) : Bg:=if zaS vs then (match vs.reverse with | []=>bg0 | m :: _=>bgD m (dcR s)) else bg0
theorem zuc {vs:List Ver} {s:ByteArray} (h:zaS vs=false) : bgR vs s=bg0:=by unfold bgR; rw[h]; rfl
theorem zqP {vs r:List Ver} {m:Ver} {s:ByteArray} (h:zaS vs=true) (hr:vs.reverse=m :: r) : bgR vs s=bgD m (dcR s):=by unfold bgR; rw[yg h,hr]
def BgP (b:Bg) (w:World) (e:Ending) (w':World) : Prop:=∃ v,e = .returned (.tuple #[.agg #[v,.int .i64 b.base,.string b.doc,.int .i64 0],.agg #[.int .i64 b.kind,.int .i64 b.code,.int .i64 b.pos,.int .i64 0]])/\OPr w' w.heap.size v b.ops/\Below w.heap.size w w'
theorem ziQ {vs:List Ver} (h:zaS vs=true) : ∃ (k:Nat) (hk:k < vs.length) (r:List Ver),vs.length=k+1/\vs.length<=8/\vs.reverse=vs[k] :: r:=by
 obtain⟨h0,h8,-,-,-⟩:=zdx.1 h
 refine⟨vs.length - 1,by omega,(vs.take (vs.length - 1)).reverse,by omega,h8,?_⟩
 have:vs=vs.take (vs.length - 1)++[vs[vs.length - 1]]:=by
  rw[← yy (by omega),show vs.length - 1+1=vs.length by omega,List.take_length]
 conv=>lhs; rw[this]
 rw[List.reverse_append]
 rfl
theorem zud (s:ByteArray) : zv9 (dcR s).1:=by
 have nil:zv9 []:=⟨fun m h=>by simp at h,yt _⟩
 unfold dcR
 split
 ·exact nil
 ·rename_i l hr
  split
  ·exact nil
  ·split
   ·exact nil
   ·refine⟨fun m hm=>?_,by simp only[yl]; omega⟩
    obtain⟨v,hv,rfl⟩:=yO.1 hm
    have g:=(GdV.of hr).item hv
    have hl:=g.len
    have h1:=zhv g.ok g.tw zcp
    have h2:=zhv g.ok g.tw zcG
    have e0:(⟨#[]⟩ : ByteArray).size=0:=rfl
    unfold zdU
    refine⟨?_,?_,?_⟩
    ·simp only[zaf]; omega
    ·simp only
     split
     ·rw[zaf]; omega
     ·rw[e0]; omega
    ·simp only
     split
     ·rw[zaf]
      cases hc:zal v zb3 with
      | none=>simp
      | some u=>have:=(g.child hc).len; simp; omega
     ·rw[e0]; omega
 ·exact nil
theorem zue (vs:List Ver) (s:ByteArray) : (bgR vs s).ops.length<=100:=by
 have h:=zu3 s
 unfold bgR
 split
 ·split
  ·exact yt _
  ·unfold bgD
   split
   ·unfold bgA
    split
    ·exact h
    ·exact yt _
   ·exact yt _
 ·exact yt _
theorem zcK {P:Program} {fn:Func} {p q:Tmp} {t1 t2:TypeId} (h:fn.results=#[.cell p t1,.cell q t2]) {tmps:Array Value} {w:World} (w':World) {g1 g2:Nat} {cs1 cs2:Array Value} (xs ys:List Value) {d1 d2:TypeDesc}
  (hp:tmps.getD p undef = .pointer (some ⟨g1,0,none⟩)) (hq:tmps.getD q undef = .pointer (some ⟨g2,0,none⟩)) (k1:w.heap[g1]?=some (.cells cs1 t1 (0,0))) (k2:w.heap[g2]?=some (.cells cs2 t2 (0,0))) (hne:g1≠g2) (hw:w'=putN (putN w g1 0 xs) g2 0 ys) (l1:xs.length=cs1.size) (l2:ys.length=cs2.size)
  (hu1:P.underlying t1=some d1) (hd1:(match d1 with | .struct _ | .array _ _=>true | _=>false)=true) (hi1:(P.info? t1).map (·.size)=some xs.toArray.size) (hu2:P.underlying t2=some d2) (hd2:(match d2 with | .struct _ | .array _ _=>true | _=>false)=true) (hi2:(P.info? t2).map (·.size)=some ys.toArray.size) :
  (results fn tmps).run P w' = .ok (.tuple #[.agg xs.toArray,.agg ys.toArray]) w':=by
 have hp':tmps[p]?.getD undef = .pointer (some ⟨g1,0,none⟩):=by simpa using hp
 have hq':tmps[q]?.getD undef = .pointer (some ⟨g2,0,none⟩):=by simpa using hq
 have a1:w'.heap[g1]?=some (.cells xs.toArray t1 (0,0)):=by rw[hw,za9 hne,zat k1 xs l1]
 have a2:w'.heap[g2]?=some (.cells ys.toArray t2 (0,0)):=by rw[hw]; exact zat ((za9 (Ne.symm hne) _ _).trans k2) ys l2
 simp[results,h,hp',hq',asAddr,run_loadVar_row w' g1 t1 t1 _ (0,0) d1 a1 hu1 hd1 hi1,run_loadVar_row w' g2 t2 t2 _ (0,0) d2 a2 hu2 hd2 hi2]
structure RB (b:Nat) (w:World) : Prop where
 k1:w.heap[b]?=some (.cells #[.slice none 0 0,.int .i64 0,.string ⟨#[]⟩,.int .i64 0] 28 (0,0))
 k2:w.heap[b+1]?=some (.cells #[.int .i64 0,.int .i64 0,.int .i64 0,.int .i64 0] 30 (0,0))
theorem RB.next {b:Nat} {w w':World} (h:RB b w) (hb:Below w.heap.size w w') : RB b w':=
 ⟨(hb.block b (yB.1 h.k1).1).trans h.k1,(hb.block (b+1) (yB.1 h.k2).1).trans h.k2⟩
def Cl4 (g:Nat) (a b c d:Value) (w:World) : Prop:=w.cell? ⟨g,0,none⟩=some a/\w.cell? ⟨g,1,none⟩=some b/\w.cell? ⟨g,2,none⟩=some c/\w.cell? ⟨g,3,none⟩=some d
theorem Cl4.of {g:Nat} {a b c d:Value} {w:World} {t:TypeId} (h:w.heap[g]?=some (.cells #[a,b,c,d] t (0,0))) : Cl4 g a b c d w:=⟨yF h 0,yF h 1,yF h 2,yF h 3⟩
theorem zf8 (w:World) (B:Nat) : OPr w B (.slice none 0 0) []:=World.ownsRow_nil w B 95 4
theorem zbX {w:World} {B:Nat} {v:Value} {ms:List POp} (h:OPr w B v ms) : ∃ a cap,v = .slice a ms.length cap:=by
 obtain⟨a,cap,h1,_⟩:=h.orow.1.form
 exact⟨a,cap,h1⟩
theorem zd9 {w:World} {B g:Nat} {v:Value} {ms:List POp} (h:OPr w B v ms) (hg:g < B) (xs:List Value) (o:Nat) : OPr (putN w g o xs) B v ms:=
 zcR h (fun b hb=>za9 (fun e=>by have:=(h.lt b (by simpa using hb)).1; omega) xs o)
theorem zfo {w:World} {B g:Nat} {v:Value} {ms:List POp} (h:OPr w B v ms) (hl:∀ b,v.ownBlock=some b->b < g) (xs:List Value) (o:Nat) : OPr (putN w g o xs) B v ms:=
 zcR h (fun b hb=>za9 (fun e=>by have:=hl b (by simpa using hb); omega) xs o)
theorem zmz (p:Value) (vs:List Ver) (bl:List Nat) (k:Nat) (w:World) (h:zbt zeS w p vs bl) (hk:k < vs.length) (hl:vs.length=k+1) (h8:vs.length<=8) :
  Calls prog 23 #[.agg #[p]] w fun e w'=>∃ ta tc,e = .returned (.agg #[.int .i64 vs[k].no,.string vs[k].doc,.slice ta vs[k].touched.length tc])/\Below w.heap.size w w':=by
 obtain⟨xa,xc,rfl,-,hxa⟩:=h.form
 obtain⟨g,rfl⟩:=hxa (by omega)
 obtain⟨ws,ib,hE,hc,-⟩:=h.at (yx hk)
 obtain⟨q,rfl,hq⟩:=hE
 have hgl:g < w.heap.size:=yJ _ _ (hc 0 _ rfl).1
 obtain⟨ta,tc,rfl,-,-⟩:=hq.form
 have hA:=zsd w (.cells #[.slice (some ⟨g,0,none⟩) vs.length xc] 35) (.cells #[.int .i64 0,.string ⟨#[]⟩,.slice none 0 0] 57)
 have c0:((w.alloc (.cells #[.slice (some ⟨g,0,none⟩) vs.length xc] 35)).alloc (.cells #[.int .i64 0,.string ⟨#[]⟩,.slice none 0 0] 57)).cell? ⟨g,k*3,none⟩=some (.int .i64 vs[k].no):=(hA.bel.cell (p:=⟨g,k*3,none⟩) hgl).trans (hc 0 _ rfl).1
 have c1:((w.alloc (.cells #[.slice (some ⟨g,0,none⟩) vs.length xc] 35)).alloc (.cells #[.int .i64 0,.string ⟨#[]⟩,.slice none 0 0] 57)).cell? ⟨g,k*3+1,none⟩=some (.string vs[k].doc):=(hA.bel.cell (p:=⟨g,k*3+1,none⟩) hgl).trans (hc 1 _ rfl).1
 have c2:((w.alloc (.cells #[.slice (some ⟨g,0,none⟩) vs.length xc] 35)).alloc (.cells #[.int .i64 0,.string ⟨#[]⟩,.slice none 0 0] 57)).cell? ⟨g,k*3+2,none⟩=some (.slice ta vs[k].touched.length tc):=(hA.bel.cell (p:=⟨g,k*3+2,none⟩) hgl).trans (hc 2 _ rfl).1
 have hkI:(k:Int) < 8:=by omega
 generalize vs[k]=m at *
 rw[hl] at *
 have e1:((k+1:Nat) : Int) - 1=(k:Int):=by omega
 have HA:=zab hA
 clear h hc hq hA hl h8 hk
 go_enter func23,ntmps23
 go_wp2
 go_returns
 exact⟨ta,tc,rfl,zaa (zag w _) (zag _ _)⟩
theorem zim (p:Value) (vs:List Ver) (bl:List Nat) (s:ByteArray) (w:World) (h:zbt zeS w p vs bl) (hs:za2 vs<=1048576) (hz:s.size<=1048576) :
  Calls prog 6 #[.agg #[p],.string s] w (BgP (bgR vs s) w):=by
 obtain⟨xa,xc,rfl,-,-⟩:=h.form
 have hA:=zwj w (.cells #[.slice xa vs.length xc] 35) (.cells #[.slice none 0 0,.int .i64 0,.string ⟨#[]⟩,.int .i64 0] 28) (.cells #[.int .i64 0,.int .i64 0,.int .i64 0,.int .i64 0] 30)
 have HS:Hid (Calls _ _ _ (((w.alloc (.cells #[.slice xa vs.length xc] 35)).alloc (.cells #[.slice none 0 0,.int .i64 0,.string ⟨#[]⟩,.int .i64 0] 28)).alloc (.cells #[.int .i64 0,.int .i64 0,.int .i64 0,.int .i64 0] 30)) _):=zie _ vs bl _ (h.below hA.bel) hs
 have HH:=zab h
 have HA:=zab hA
 have HSZ:=zab hs
 clear h hA hs
 go_enter func6,ntmps6
 go_wp2_with fail
 generalize ((w.alloc _).alloc _).alloc _=wA at *
 have hsz:=(uh HA).size
 have hrA:RB (w.heap.size+1) wA:=⟨(uh HA).k1,(uh HA).k2⟩
 refine (uh HS).mono ?_
 rintro e w1 ⟨rfl,b1⟩
 have HR1:=zab (hrA.next b1)
 have HB1:=zab (zaa (uh HA).bel b1)
 have hs1:=b1.size
 have HK0:=zab ((b1.block w.heap.size (by omega)).trans (uh HA).k0)
 clear HS hrA b1 HA
 cases hok:zaS vs with
 | false=>
  have HX:=zab (zuc (s:=s) hok)
  obtain⟨c0,c1,c2,c3⟩:=Cl4.of (uh HR1).k1
  obtain⟨d0,d1,d2,d3⟩:=Cl4.of (uh HR1).k2
  have f1:=yI (uh HR1).k1
  have f2:=yI (uh HR1).k2
  clear hok
  go_wp2
  refine bodyPost_ret (zcK rfl _ [_,_,_,_] [_,_,_,_] rfl rfl (uh HR1).k1 (uh HR1).k2 (by omega) rfl rfl rfl underlying28 rfl (by kernel_rfl) underlying30 rfl (by kernel_rfl)) rfl ?_
  rw[uh HX]
  exact⟨_,rfl,zf8 _ _,zah (zah (uh HB1) (by omega) [_,_,_,_] 0) (by omega) [_,_,_,_] 0⟩
 | true=>
  obtain⟨k,hk,r,hl,h8,hrv⟩:=ziQ hok
  have HX:=zab (zqP (s:=s) hok hrv)
  have HD:=zab (zhe s w1 hz)
  have hsv:=uh HSZ
  have HIN:Hid (vs[k].doc.size<=1048576):=(zpU hsv k hk).1
  have HHD:Hid (∀ wx,Below w.heap.size w wx->Calls prog 23 #[.agg #[.slice xa vs.length xc]] wx fun e w'=>∃ ta tc,e = .returned (.agg #[.int .i64 vs[k].no,.string vs[k].doc,.slice ta vs[k].touched.length tc])/\Below wx.heap.size wx w'):=fun wx hx=>zmz _ vs bl k wx ((uh HH).below hx) hk hl h8
  have HOI:=zab (zud s)
  generalize vs[k]=m at *
  generalize hdc:dcR s=D at *
  obtain⟨ops,dc,di⟩:=D
  clear hok hl h8 hrv hsv HSZ HH hk hdc
  simp only at HD
  go_wp2_with fail
  refine (uh HD).mono ?_
  rintro e w2 ⟨v2,rfl,o2,b2⟩
  obtain⟨a2,cap2,rfl⟩:=zbX o2
  have b02:=zaa (uh HB1) b2
  have HR2:=zab ((uh HR1).next b2)
  have hs2:=b2.size
  have HK2:=zab ((b2.block w.heap.size (by omega)).trans (uh HK0))
  have HO2:=zab o2
  have HB2:=zab b02
  have HL:=zab (uh HHD w2 b02)
  clear HD b2 b02 o2 HR1 HB1 HK0 HHD
  by_cases hdc:dc=0
  ·subst hdc
   have k0:w2.cell? ⟨w.heap.size,0,none⟩=some (.slice xa vs.length xc):=yF (uh HK2) 0
   go_wp2_with fail
   refine (uh HL).mono ?_
   rintro e w3 ⟨ta,tc,rfl,b3⟩
   have hB:=zag w3 (.cells #[.int .i64 m.no,.string m.doc,.slice ta m.touched.length tc] 57)
   have kB:=yG w3 (.cells #[.int .i64 m.no,.string m.doc,.slice ta m.touched.length tc] 57)
   have zB:(w3.alloc (.cells #[.int .i64 m.no,.string m.doc,.slice ta m.touched.length tc] 57)).heap.size=w3.heap.size+1:=by simp
   have b24:=zaa b3 hB
   have o4:OPr _ _ _ ops:=zaj (uh HO2) b24
   have HAP:=zab (zii m.doc _ ops _ _ o4.orow.1 (uh HOI).1 (uh HIN))
   have HO4:=zab o4
   have HB4:=zab (zaa (uh HB2) b24)
   have HR4:=zab ((uh HR2).next b24)
   have HKB:=zab kB
   have HZB:=zab zB
   have hs3:=b3.size
   obtain⟨A,hA⟩ : ∃ A,apR m.doc ops=A:=⟨_,rfl⟩
   rw[hA] at HAP
   have HAE:=zab hA
   obtain⟨dd,ac,ai⟩:=A
   simp only at HAP
   clear HL b3 hB kB zB b24 o4 HB2 HR2 HO2 hA k0 HK2
   go_wp2_with fail
   generalize w3.alloc _=w4 at *
   generalize w3.heap.size=V0 at *
   refine (uh HAP).mono ?_
   rintro e w5 ⟨rfl,b5⟩
   have zB:=uh HZB
   have hs5:=b5.size
   have HO5:Hid (OPr w5 _ _ ops):=zaj (uh HO4) b5
   have HB5:=zab (zaa (uh HB4) b5)
   have HR5:=zab ((uh HR4).next b5)
   have v0:w5.cell? ⟨V0,0,none⟩=some (.int .i64 m.no):=yF ((b5.block V0 (by omega)).trans (uh HKB)) 0
   obtain⟨c0,c1,c2,c3⟩:=Cl4.of (uh HR5).k1
   obtain⟨d0,d1,d2,d3⟩:=Cl4.of (uh HR5).k2
   have f1:=yI (uh HR5).k1
   have f2:=yI (uh HR5).k2
   clear HAP b5 HB4 HR4 HO4 HKB
   by_cases hac:ac=0
   ·subst hac
    have HY:Hid (bgR vs s=⟨ops,m.no,dd,1,0,0⟩):=by show _=_; rw[uh HX]; unfold bgD; rw[yg rfl]; show bgA m.no (apR m.doc ops) ops=_; rw[uh HAE]; rfl
    go_wp2
    refine bodyPost_ret (zcK rfl _ [_,_,_,_] [_,_,_,_] rfl rfl (uh HR5).k1 (uh HR5).k2 (by omega) rfl rfl rfl underlying28 rfl (by kernel_rfl) underlying30 rfl (by kernel_rfl)) rfl ?_
    rw[uh HY]
    exact⟨_,rfl,zaC (zd9 (zd9 (uh HO5) (by omega) [_,_,_,_] 0) (by omega) [_,_,_,_] 0) (by omega),zah (zah (uh HB5) (by omega) [_,_,_,_] 0) (by omega) [_,_,_,_] 0⟩
   ·have HY:Hid (bgR vs s=⟨[],0,⟨#[]⟩,5,ac,ai⟩):=by show _=_; rw[uh HX]; unfold bgD; rw[yg rfl]; show bgA m.no (apR m.doc ops) ops=_; rw[uh HAE]; unfold bgA; rw[yf hac]
    have hacI:(ac != 0)=true:=by simpa using hac
    clear hac
    go_wp2
    refine bodyPost_ret (zcK rfl _ [_,_,_,_] [_,_,_,_] rfl rfl (uh HR5).k1 (uh HR5).k2 (by omega) rfl rfl rfl underlying28 rfl (by kernel_rfl) underlying30 rfl (by kernel_rfl)) rfl ?_
    rw[uh HY]
    exact⟨_,rfl,zf8 _ _,zah (zah (uh HB5) (by omega) [_,_,_,_] 0) (by omega) [_,_,_,_] 0⟩
  ·have HY:Hid (bgR vs s=⟨[],0,⟨#[]⟩,6,dc,di⟩):=by show _=_; rw[uh HX]; unfold bgD; rw[yf hdc]
   have hdcI:(dc != 0)=true:=by simpa using hdc
   obtain⟨c0,c1,c2,c3⟩:=Cl4.of (uh HR2).k1
   obtain⟨d0,d1,d2,d3⟩:=Cl4.of (uh HR2).k2
   have f1:=yI (uh HR2).k1
   have f2:=yI (uh HR2).k2
   clear hdc HL
   go_wp2
   refine bodyPost_ret (zcK rfl _ [_,_,_,_] [_,_,_,_] rfl rfl (uh HR2).k1 (uh HR2).k2 (by omega) rfl rfl rfl underlying28 rfl (by kernel_rfl) underlying30 rfl (by kernel_rfl)) rfl ?_
   rw[uh HY]
   exact⟨_,rfl,zf8 _ _,zah (zah (uh HB2) (by omega) [_,_,_,_] 0) (by omega) [_,_,_,_] 0⟩
end Go.Proofs.YtekpghcckdjnhaaGreatDoor
namespace Go.Proofs.YtekpghcckdjnhaaGreatDoor
open Go.RowKit Go.Sort Go.Proofs.Tryz
end Go.Proofs.YtekpghcckdjnhaaGreatDoor
namespace Go.Proofs.YtekpghcckdjnhaaGreatDoor
open Go.RowKit Go.Proofs.Tryz
def zkV (s:ByteArray) : List (List UInt8):=(zar s.data.toList).getD []
def opB (k:Int) (pv fv vv:Value) : Obj:=.cells #[.string (zjn k),.int .i64 k,.bool (zfN k),.bool (zc9 k),.bool (shF k),.bool (shP k),zd4 k,pv,fv,vv] 208 (0,0)
structure zxN (w:World) (B:Nat) (m:POp) (g:Nat) (pv fv vv:Value) (v:JV) : Prop where
 blk:w.heap[g]?=some (opB m.kind pv fv vv)
 ge:B<=g
 path:OT w B pv (zkV m.path)
 src:OT w B fv (zkV m.src)
 val:zc9 m.kind=true->zaZ m.val = .inr v/\zac (ct v)=m.val/\∃ t p,vv = .iface t p/\Rep w (fun k=>B<=k/\k < w.heap.size) v vv
def ROk (m:POp) (w:World) (e:Ending) (w':World) : Prop:=∃ g pv fv vv v,e = .returned (.tuple #[.pointer (some ⟨g,0,none⟩),.bool true])/\zxN w' w.heap.size m g pv fv vv v/\Below w.heap.size w w'
theorem zqQ (k:Int) : ∃ fid,zd4 k = .func (Fn.func fid) #[] #[]:=by
 unfold zd4
 repeat' split
 all_goals exact⟨_,rfl⟩
def RNo (w:World) (e:Ending) (w':World) : Prop:=e = .returned (.tuple #[.pointer none,.bool false])/\Below w.heap.size w w'
theorem zbL {w:World} {b i:Nat} {cs:Array Value} {t:TypeId} {f:Nat×Nat} {x:Value} (h:w.heap[b]?=some (.cells cs t f)) (hx:cs[i]?=some x) : w.cell? ⟨b,i,none⟩=some x:=(yF h i).trans hx
theorem ziR (m:POp) (w:World) (k1:1<=m.kind) (k6:m.kind<=6) (hw:RdW w) (hz1:m.path.size<=1048576) (hz2:m.src.size<=1048576) (hz3:m.val.size<=1048576) :
  Calls prog 110 #[.agg #[.int .i64 m.kind,.string m.path,.string m.src,.string m.val]] w fun e w'=>(zdv m=true->ROk m w e w')/\(zdv m=false->RNo w e w'):=by
 have hA:=zag w (zfh m)
 have kA:=yG w (zfh m)
 have zA:(w.alloc (zfh m)).heap.size=w.heap.size+1:=by simp
 have HFV:=zab (zkF w.heap.size m (w.alloc (zfh m)) kA k1 k6)
 have HTP:Hid (∀ wx,Below w.heap.size w wx->Calls prog 131 #[.string m.path] wx fun e w'=>∃ v,e = .returned (.tuple #[v,.bool (zar m.path.data.toList).isSome])/\OT w' wx.heap.size v (zkV m.path)/\Below wx.heap.size wx w'):=fun wx hx=>zdy m.path wx (hw.up hx).ml hz1
 have HTS:Hid (∀ wx,Below w.heap.size w wx->Calls prog 131 #[.string m.src] wx fun e w'=>∃ v,e = .returned (.tuple #[v,.bool (zar m.src.data.toList).isSome])/\OT w' wx.heap.size v (zkV m.src)/\Below wx.heap.size wx w'):=fun wx hx=>zdy m.src wx (hw.up hx).ml hz2
 have HRC:Hid (∀ wx,Below w.heap.size w wx->Calls prog 53 #[.string m.val] wx (zub m.val wx)):=fun wx hx=>zeQ m.val wx (hw.up hx).tab (hw.up hx).err (hw.up hx).pow (by omega)
 have HOK:Hid (zdv m=((zar m.path.data.toList).isSome && (if zfN m.kind then (zar m.src.data.toList).isSome else m.src.toList == []) && (if zc9 m.kind then zbp m.val else m.val.toList == []))):=by show _=_; unfold zdv; rw[yj k1,yj k6]; rfl
 have HSE:Hid (m.src.toList=[]->(zar m.src.data.toList).isSome=true):=fun e=>by rw[ByteArray.toList_eq] at e; rw[e]; rfl
 obtain⟨fid,hfid⟩:=zqQ m.kind
 obtain⟨wb,hwb⟩ : ∃ wb,zjn m.kind=wb:=⟨_,rfl⟩
 obtain⟨sf,hsfq⟩ : ∃ sf,shF m.kind=sf:=⟨_,rfl⟩
 obtain⟨sp,hspq⟩ : ∃ sp,shP m.kind=sp:=⟨_,rfl⟩
 obtain⟨bf,hbf⟩ : ∃ bf,zfN m.kind=bf:=⟨_,rfl⟩
 obtain⟨bv,hbv⟩ : ∃ bv,zc9 m.kind=bv:=⟨_,rfl⟩
 unfold zoL at HFV
 rw[hfid,hwb,hsfq,hspq,hbf,hbv] at HFV
 rw[hbf,hbv] at HOK
 have HQ:Hid (zd4 m.kind = .func (Fn.func fid) #[] #[]/\zjn m.kind=wb/\shF m.kind=sf/\shP m.kind=sp/\zfN m.kind=bf/\zc9 m.kind=bv):=⟨hfid,hwb,hsfq,hspq,hbf,hbv⟩
 have HA:=zab hA
 have HKA:=zab kA
 have HZA:=zab zA
 generalize (zar m.path.data.toList).isSome=zp at *
 generalize (zar m.src.data.toList).isSome=zq at *
 obtain⟨ok,hok⟩ : ∃ ok,zdv m=ok:=⟨_,rfl⟩
 rw[hok] at HOK ⊢
 unfold zfh at *
 clear hfid hwb hsfq hspq hbf hbv hA kA zA k1 k6 hw hok hz1 hz2 hz3
 go_enter func110,ntmps110
 go_wp2_with fail
 generalize w.alloc _=wA at *
 refine (uh HFV).mono ?_
 rintro e w1 ⟨rfl,b1⟩
 have hB:=zag w1 (.cells #[.string wb,.int .i64 m.kind,.bool bf,.bool bv,.bool sf,.bool sp,.func (Fn.func fid) #[] #[]] 202)
 have kB:=yG w1 (.cells #[.string wb,.int .i64 m.kind,.bool bf,.bool bv,.bool sf,.bool sp,.func (Fn.func fid) #[] #[]] 202)
 have zB:(w1.alloc (.cells #[.string wb,.int .i64 m.kind,.bool bf,.bool bv,.bool sf,.bool sp,.func (Fn.func fid) #[] #[]] 202)).heap.size=w1.heap.size+1:=by simp
 have b2:=zaa b1 hB
 have hz1:=b1.size
 have k2:=(b2.block w.heap.size (by have:=uh HZA; omega)).trans (uh HKA)
 have c1:=zbL (i:=1) k2 rfl
 have c2:=zbL (i:=2) k2 rfl
 have c3:=zbL (i:=3) k2 rfl
 have HT:=zab (uh HTP _ (zaa (uh HA) b2))
 have HB2:=zab b2
 have HK2:=zab k2
 have HKB:=zab kB
 have HZ1:=zab hz1
 have HZB:=zab zB
 have HOB:Hid (∀ (wx:World) (p q:Value),Below wx.heap.size wx (wx.alloc (.cells #[.string wb,.int .i64 m.kind,.bool bf,.bool bv,.bool sf,.bool sp,.func (Fn.func fid) #[] #[],p,q,.nilIface] 208))/\(wx.alloc (.cells #[.string wb,.int .i64 m.kind,.bool bf,.bool bv,.bool sf,.bool sp,.func (Fn.func fid) #[] #[],p,q,.nilIface] 208)).heap[wx.heap.size]?=some (.cells #[.string wb,.int .i64 m.kind,.bool bf,.bool bv,.bool sf,.bool sp,.func (Fn.func fid) #[] #[],p,q,.nilIface] 208 (0,0))/\(wx.alloc (.cells #[.string wb,.int .i64 m.kind,.bool bf,.bool bv,.bool sf,.bool sp,.func (Fn.func fid) #[] #[],p,q,.nilIface] 208)).heap.size=wx.heap.size+1):=fun wx p q=>⟨zag _ _,yG _ _,by simp⟩
 clear HFV b1 hB kB b2 hz1 k2 HKA zB HTP
 obtain⟨bq,hbq⟩ : ∃ b,b=bv:=⟨_,rfl⟩
 by_cases hsf:bf=false->m.src.toList=[]
 ·by_cases hvn:bv=false->m.val.toList=[]
  ·cases bf <;> cases bv
   all_goals (
    try have es:=hsf rfl
    try have ev:=hvn rfl
    clear hsf hvn
    have HBQ:=zab hbq
    clear hbq
    go_wp2_with fail
    generalize w1.alloc _=w2 at *
    generalize w1.heap.size=V0 at *
    refine (uh HT).mono ?_
    rintro e w3 ⟨pv,rfl,op,b3⟩
    obtain⟨pa,pg,pc,rfl,-,-⟩:=op.shape
    have zB:=uh HZB
    have zA:=uh HZA
    have hz1:=uh HZ1
    have k3:=(b3.block w.heap.size (by omega)).trans (uh HK2)
    have d2:=zbL (i:=2) k3 rfl
    have b23:=zaa (uh HB2) b3
    have HT2:=zab (uh HTS _ (zaa (uh HA) b23))
    have HOP:=zab op
    have HK3:=zab k3
    have HKB3:=zab ((b3.block V0 (by omega)).trans (uh HKB))
    have HZ3:=zab b3.size
    have HB23:=zab b23
    clear HT op b3 k3 b23 HK2 HKB HB2 c1 c2 c3 zA zB hz1 HTS
    go_wp2_with fail
    refine (uh HT2).mono ?_
    rintro e w4 ⟨fv,rfl,of,b4⟩
    obtain⟨fa,fg,fc,rfl,-,-⟩:=of.shape
    have b24:=zaa (uh HB23) b4
    by_cases hpq:zp=true/\zq=true
    ·obtain⟨rfl,rfl⟩:=hpq
     have zB:=uh HZB
     have zA:=uh HZA
     have hz1:=uh HZ1
     have hz3:=uh HZ3
     have kv:=(b4.block V0 (by omega)).trans (uh HKB3)
     have v0:=zbL (i:=0) kv rfl
     have v1:=zbL (i:=1) kv rfl
     have v2:=zbL (i:=2) kv rfl
     have v3:=zbL (i:=3) kv rfl
     have v4:=zbL (i:=4) kv rfl
     have v5:=zbL (i:=5) kv rfl
     have v6:=zbL (i:=6) kv rfl
     have hz4:=b4.size
     have k4:=(b4.block w.heap.size (by omega)).trans (uh HK3)
     have d3:=zbL (i:=3) k4 rfl
     obtain⟨hC,kC,zC⟩:=uh HOB w4 (.slice pa (zkV m.path).length pc) (.slice fa (zkV m.src).length fc)
     have e3:=zbL (i:=3) ((hC.block V0 (yB.1 kv).1).trans kv) rfl
     have f3:=zbL (i:=3) ((hC.block w.heap.size (by omega)).trans k4) rfl
     have b5:=zaa (uh HA) (zaa b24 hC)
     have HR:=zab (uh HRC _ b5)
     have OPX:=zab (zaj (uh HOP) b4)
     have OFX:=zab of
     have HCC:=zab hC
     have HB5:=zab b5
     have HKC:=zab kC
     have HZC:=zab zC
     have HZ4:=zab hz4
     clear HT2 of b4 b24 k4 kv HOP HK3 HKB3 HB23 d2 zA zB hz1 hz3 hC kC zC HRC HOB b5 hz4
     cases bq with
     | false=>
      first
      | exact Bool.noConfusion (uh HBQ)
      | (have HZ : Hid (ok = true) := by show _ = _; rw [uh HOK]; simp [*]
         clear HR
         go_wp2
         go_ret2
         have zB:=uh HZB
         have zA:=uh HZA
         have hz1:=uh HZ1
         have hz3:=uh HZ3
         have hz4:=uh HZ4
         refine⟨fun _=>⟨w4.heap.size,_,_,.nilIface,.nul,rfl,⟨?_,by omega,zaC (zaj (uh OPX) (uh HCC)) (by omega),zaC (zaj (uh OFX) (uh HCC)) (by omega),fun h=>?_⟩,uh HB5⟩,fun h=>?_⟩
         ·unfold opB
          rw[(uh HQ).1,(uh HQ).2.1,(uh HQ).2.2.1,(uh HQ).2.2.2.1,(uh HQ).2.2.2.2.1,(uh HQ).2.2.2.2.2]
          exact uh HKC
         ·rw[(uh HQ).2.2.2.2.2] at h; cases h
         ·rw[uh HZ] at h; cases h)
     | true=>
      first
      | exact Bool.noConfusion (uh HBQ)
      | (go_wp2_with fail
         generalize w4.alloc _=w5 at *
         generalize hG:w4.heap.size=G0 at *
         have HGE:=zab hG
         clear hG
         refine (uh HR).mono ?_
         rintro e w6 ⟨b6,hno,hyes⟩
         have zC:=uh HZC
         have k6:=(b6.block G0 (by omega)).trans (uh HKC)
         have g9:=zbL (i:=9) k6 rfl
         have f9:=yI k6 9
         have HB6:=zab b6
         have HK6:=zab k6
         clear HR b6 k6 zC HKC
         cases hg:zbp m.val with
         | false=>
          obtain rfl:=hno hg
          have HZ:Hid (ok=false):=by show _=_; rw[uh HOK,hg]; simp
          clear hno hyes hg
          go_wp2
          go_ret2
          refine⟨fun h=>?_,fun _=>⟨rfl,?_⟩⟩
          ·rw[uh HZ] at h; cases h
          ·have zB:=uh HZB
           have zA:=uh HZA
           have hz1:=uh HZ1
           have hz3:=uh HZ3
           have hz4:=uh HZ4
           have zC:=uh HZC
           exact ((uh HB5).trans ((uh HB6).mono (by omega))).setCell (p:=⟨G0,9,none⟩) (by show w.heap.size<=G0; omega) _
         | true=>
          obtain⟨v,t,p,r1,r2,rfl,rep⟩:=hyes hg
          have HZ:Hid (ok=true):=by show _=_; rw[uh HOK,hg]; simp[*]
          have HR1:=zab r1
          have HR2:=zab r2
          have HREP:=zab rep
          have HK7:=zab (heap_setCell_same w6 G0 9 _ _ (.iface t p) (uh HK6))
          clear hno hyes hg r1 r2 rep
          go_wp2
          go_ret2
          have zB:=uh HZB
          have zA:=uh HZA
          have hz1:=uh HZ1
          have hz3:=uh HZ3
          have hz4:=uh HZ4
          have zC:=uh HZC
          have B47:Below w4.heap.size w4 (w6.setCell ⟨G0,9,none⟩ (.iface t p)):=by
           rw[uh HGE]
           exact ((uh HCC).trans ((uh HB6).mono (by omega))).setCell (p:=⟨G0,9,none⟩) (ye _) _
          have z7:(w6.setCell ⟨G0,9,none⟩ (.iface t p)).heap.size=w6.heap.size:=by simp[World.setCell]
          refine⟨fun _=>⟨G0,_,_,.iface t p,v,rfl,⟨?_,by omega,zaC (zaj (uh OPX) B47) (by omega),zaC (zaj (uh OFX) B47) (by omega),fun _=>⟨uh HR1,uh HR2,t,p,rfl,?_⟩⟩,((uh HB5).trans ((uh HB6).mono (by omega))).setCell (p:=⟨G0,9,none⟩) (by show w.heap.size<=G0; omega) _⟩,fun h=>?_⟩
          ·unfold opB
           rw[(uh HQ).1,(uh HQ).2.1,(uh HQ).2.2.1,(uh HQ).2.2.2.1,(uh HQ).2.2.2.2.1,(uh HQ).2.2.2.2.2]
           exact uh HK7
          ·exact Rep.keep (fun k hk=>Below.heap_setCell w6 ⟨G0,9,none⟩ _ k (fun e=>by have:k=G0:=e; omega)) (fun k hk=>⟨by omega,by rw[z7]; exact hk.2⟩) _ _ (uh HREP)
          ·rw[uh HZ] at h; cases h)
    ·have HZ:Hid (ok=false):=by
      have hse:=uh HSE
      show _=_
      rw[uh HOK]
      cases zp <;> cases zq <;> simp_all
     have HB4:=zab (zaa (uh HA) b24)
     clear HT2 of b4 b24 HK3 HKB3 HB23 d2 HRC HOB
     cases zp <;> cases zq
     all_goals first
      | exact absurd ⟨rfl,rfl⟩ hpq
      | (clear hpq
         go_wp2
         go_ret2
         exact⟨fun h=>(by rw[uh HZ] at h; cases h),fun _=>⟨rfl,uh HB4⟩⟩))
  ·obtain⟨rfl,hv⟩ : bv=false/\¬ m.val.toList=[]:=by cases bv <;> simp_all
   have hi:m.val.toList.isEmpty=false:=by rw[← Bool.not_eq_true,List.isEmpty_iff]; exact hv
   have HZ:Hid (ok=false):=by show _=_; rw[uh HOK]; simp[hv]
   have HB:=zab (zaa (uh HA) (uh HB2))
   clear hvn hv hbq HOB HTS HRC
   cases bf
   all_goals (
    try have es:=hsf rfl
    clear hsf
    go_wp2
    go_ret2
    exact⟨fun h=>(by rw[uh HZ] at h; cases h),fun _=>⟨rfl,uh HB⟩⟩)
 ·obtain⟨rfl,hs⟩ : bf=false/\¬ m.src.toList=[]:=by cases bf <;> simp_all
  have HZ:Hid (ok=false):=by show _=_; rw[uh HOK]; simp[hs]
  have HB:=zab (zaa (uh HA) (uh HB2))
  clear hsf hbq HOB HTS HRC
  cases bv
  all_goals (
   go_wp2
   go_ret2
   exact⟨fun h=>(by rw[uh HZ] at h; cases h),fun _=>⟨rfl,uh HB⟩⟩)
theorem zmA (m:POp) (w:World) (hno:¬ (1<=m.kind/\m.kind<=6)) :
  Calls prog 110 #[.agg #[.int .i64 m.kind,.string m.path,.string m.src,.string m.val]] w (RNo w):=by
 have hA:=zag w (zfh m)
 have kA:=yG w (zfh m)
 have zA:(w.alloc (zfh m)).heap.size=w.heap.size+1:=by simp
 have HFV:=zab (zmj w.heap.size m (w.alloc (zfh m)) kA hno)
 have HA:=zab hA
 unfold zfh zcw at *
 clear hA kA zA hno
 go_enter func110,ntmps110
 go_wp2_with fail
 generalize (w.alloc (.cells #[.int .i64 m.kind,.string m.path,.string m.src,.string m.val] 95))=wA at *
 refine (uh HFV).mono ?_
 rintro e w1 ⟨rfl,b1⟩
 have HB2:=zab (zaa (uh HA) (zaa b1 (zag w1 (.cells #[.string ⟨#[]⟩,.int .i64 0,.bool false,.bool false,.bool false,.bool false,.nilFunc] 202))))
 clear HFV b1
 go_wp2
 go_ret2
 exact⟨rfl,uh HB2⟩
theorem zmB (m:POp) (w:World) (h:zdv m=true) (hw:RdW w) (hz1:m.path.size<=1048576) (hz2:m.src.size<=1048576) (hz3:m.val.size<=1048576) :
  Calls prog 110 #[.agg #[.int .i64 m.kind,.string m.path,.string m.src,.string m.val]] w (ROk m w):=by
 have hk:1<=m.kind/\m.kind<=6:=by unfold zdv at h; simp only[Bool.and_eq_true,decide_eq_true_eq] at h; exact h.1.1.1
 exact (ziR m w hk.1 hk.2 hw hz1 hz2 hz3).mono fun e w' hr=>hr.1 h
theorem zoX (m:POp) (w:World) (h:zdv m=false) (hw:RdW w) (hz1:m.path.size<=1048576) (hz2:m.src.size<=1048576) (hz3:m.val.size<=1048576) :
  Calls prog 110 #[.agg #[.int .i64 m.kind,.string m.path,.string m.src,.string m.val]] w (RNo w):=by
 by_cases hk:1<=m.kind/\m.kind<=6
 ·exact (ziR m w hk.1 hk.2 hw hz1 hz2 hz3).mono fun e w' hr=>hr.2 h
 ·exact zmA m w hk
structure OpQ where
 g:Nat
 pv:Value
 fv:Value
 vv:Value
 v:JV
structure OpS (w:World) (S:Nat->Prop) (m:POp) (q:OpQ) : Prop where
 blk:w.heap[q.g]?=some (opB m.kind q.pv q.fv q.vv)
 sg:S q.g
 path:OT w 0 q.pv (zkV m.path)
 sp:∀ b,q.pv.ownBlock=some b->S b
 src:OT w 0 q.fv (zkV m.src)
 ss:∀ b,q.fv.ownBlock=some b->S b
 val:zc9 m.kind=true->zaZ m.val = .inr q.v/\zac (ct q.v)=m.val/\∃ t p,q.vv = .iface t p/\Rep w S q.v q.vv
theorem zkW {w w':World} {e size n:Nat} {v:Value} {xs:List Value} (h:w.ownsRow 0 e size v n xs) (hk:∀ b,v.ownBlock=some b->w'.heap[b]?=w.heap[b]?) : w'.ownsRow 0 e size v n xs:=by
 refine⟨h.1,?_⟩
 rcases h.2 with h0 | ⟨g,cap,cur,hv,hB,hg,r⟩
 ·exact .inl h0
 ·exact .inr ⟨g,cap,cur,hv,hB,(hk g (by rw[hv]; rfl)).trans hg,r⟩
theorem OpS.keep {w w':World} {S S':Nat->Prop} {m:POp} {q:OpQ} (h:OpS w S m q) (hk:∀ k,S k->w'.heap[k]?=w.heap[k]?) (hS:∀ k,S k->S' k) : OpS w' S' m q:=
 ⟨(hk _ h.sg).trans h.blk,hS _ h.sg,zkW h.path fun b hb=>hk b (h.sp b hb),fun b hb=>hS b (h.sp b hb),zkW h.src fun b hb=>hk b (h.ss b hb),fun b hb=>hS b (h.ss b hb),
  fun hv=>by obtain⟨h1,h2,t,p,h3,h4⟩:=h.val hv; exact⟨h1,h2,t,p,h3,Rep.keep hk hS _ _ h4⟩⟩
theorem zxN.toS {w:World} {B:Nat} {m:POp} {g:Nat} {pv fv vv:Value} {v:JV} (h:zxN w B m g pv fv vv v) : OpS w (fun k=>B<=k/\k < w.heap.size) m ⟨g,pv,fv,vv,v⟩:=
 ⟨h.blk,⟨h.ge,(yB.1 h.blk).1⟩,zaC h.path (yt _),fun b hb=>h.path.lt b hb,zaC h.src (yt _),fun b hb=>h.src.lt b hb,h.val⟩
def zxO (q:OpQ) : Value:=.pointer (some ⟨q.g,0,none⟩)
structure zvl (w:World) (B:Nat) (S:Nat->Prop) (lv:Value) (ms:List POp) (qs:List OpQ) : Prop where
 len:qs.length=ms.length
 row:w.ownsRow B 170 1 lv qs.length (qs.map zxO)
 ops:∀ (j:Nat) m q,ms[j]?=some m->qs[j]?=some q->OpS w S m q
 off:∀ k,S k->lv.ownBlock≠some k
def zvm (w0:Nat) (w:World) (lv:Value) (k:Nat) : Prop:=w0<=k/\k < w.heap.size/\lv.ownBlock≠some k
theorem zvl.snoc {wr w2 w3 w4:World} {B Wb:Nat} {lv lv':Value} {ms:List POp} {qs:List OpQ} {m:POp} {q:OpQ} (hL:zvl wr B (zvm B wr lv) lv ms qs) (hb2:Below wr.heap.size wr w2) (hat:zxN w2 Wb m q.g q.pv q.fv q.vv q.v) (hW:wr.heap.size<=Wb) (hB:B<=wr.heap.size)
  (hb3:Below w2.heap.size w2 w3) (hrow:w4.ownsRow B 170 1 lv' (qs.length+1) (qs.map zxO++[zxO q])) (hg:w3.grownBy w4 lv.ownBlock) (hwh:lv'.ownBlock=lv.ownBlock∨lv'.ownBlock=some w3.heap.size) :
  zvl w4 B (zvm B w4 lv') lv' (ms++[m]) (qs++[q]):=by
 have z2:=hb2.size
 have z3:=hb3.size
 have z4:=hg.size
 have hkeep:∀ k,k < w3.heap.size->lv.ownBlock≠some k->w4.heap[k]?=w3.heap[k]?:=fun k h1 h2=>hg.block k h1 (fun e=>h2 e.symm)
 have hsub:∀ k,B<=k->k < w3.heap.size->lv.ownBlock≠some k->zvm B w4 lv' k:=fun k h1 h2 h3=>⟨h1,by omega,fun e=>by
  rcases hwh with h | h
  ·exact h3 (h ▸ e)
  ·rw[h] at e; injection e with e; omega⟩
 refine⟨by simp[hL.len],by simpa using hrow,fun j m' q' hm hq=>?_,fun k hk=>hk.2.2⟩
 by_cases hj:j < ms.length
 ·rw[List.getElem?_append_left hj] at hm
  rw[List.getElem?_append_left (by rw[hL.len]; exact hj)] at hq
  refine (hL.ops j m' q' hm hq).keep (fun k hk=>?_) (fun k hk=>hsub k hk.1 (by have:=hk.2.1; omega) hk.2.2)
  have:=hk.2.1
  rw[hkeep k (by omega) hk.2.2,hb3.block k (by omega),hb2.block k (by omega)]
 ·have hjl:=(List.getElem?_eq_some_iff.1 hm).1
  rw[yh,List.length_singleton] at hjl
  obtain rfl:j=ms.length:=by omega
  rw[List.getElem?_append_right (ye _)] at hm
  rw[List.getElem?_append_right (by rw[hL.len]; exact ye _),hL.len] at hq
  simp at hm hq
  subst hm; subst hq
  have hoff:∀ k,Wb<=k->lv.ownBlock≠some k:=fun k h1 e=>by
   have:=(hL.row.lt k e).2
   omega
  refine hat.toS.keep (fun k hk=>?_) (fun k hk=>hsub k (by omega) (by omega) (hoff k hk.1))
  rw[hkeep k (by omega) (hoff k hk.1),hb3.block k hk.2]
theorem zqR:(prog.info? 170).map (fun i=>(i.zero,i.size,i.bytes))=some (some (.pointer none),1,8):=by kernel_rfl
def zoY (w:World) (c:Int) (ev:Value) : Prop:=∃ fb,ev = .iface 165 (.pointer (some ⟨fb,0,none⟩))/\w.heap[fb]?=some (.cells #[.int .i64 c] 167 (0,0))
theorem zoY.next {w w':World} {c:Int} {ev:Value} (h:zoY w c ev) (hb:Below w.heap.size w w') : zoY w' c ev:=by
 obtain⟨fb,h1,h2⟩:=h
 exact⟨fb,h1,(hb.block fb (yB.1 h2).1).trans h2⟩
def zqS (w:World) (i c:Int) (ev:Value) : Prop:=∃ eb fv,ev = .iface 164 (.pointer (some ⟨eb,0,none⟩))/\w.heap[eb]?=some (.cells #[.int .i64 i,fv] 169 (0,0))/\zoY w c fv
theorem zhy (w:World) (i c:Int) : zqS ((w.alloc (.cells #[.int .i64 c] 167)).alloc (.cells #[.int .i64 i,.iface 165 (.pointer (some ⟨w.heap.size,0,none⟩))] 169)) i c (.iface 164 (.pointer (some ⟨w.heap.size+1,0,none⟩))):=by
 have z:(w.alloc (.cells #[.int .i64 c] 167)).heap.size=w.heap.size+1:=by simp
 refine⟨w.heap.size+1,_,rfl,?_,w.heap.size,rfl,?_⟩
 ·have:=yG (w.alloc (.cells #[.int .i64 c] 167)) (.cells #[.int .i64 i,.iface 165 (.pointer (some ⟨w.heap.size,0,none⟩))] 169)
  rwa [z] at this
 ·exact ((zag _ _).block w.heap.size (by omega)).trans (yG w _)
def zyQ (ms:List POp) (w:World) (e:Ending) (w':World) : Prop:=Below w.heap.size w w' /\
 (0<=zep ms->∃ t p,e = .returned (.tuple #[.slice none 0 0,.iface t p])/\zqS w' (zep ms) 2 (.iface t p)) /\
 (zep ms < 0->∃ lv qs,e = .returned (.tuple #[lv,.nilIface])/\zvl w' w.heap.size (zvm w.heap.size w' lv) lv ms qs)
theorem zjG (v:Value) (ms:List POp) (bl:List Nat) (w:World) (h:zbt opE w v ms bl) (hs:zv9 ms) (hw:RdW w) :
  Calls prog 73 #[v] w (zyQ ms w):=by
 have hin:=hs.1
 obtain⟨xa,xc,rfl,h1,hxa⟩:=h.form
 have H:=zab h
 have HXA:=zab hxa
 have HIN:=zab hin
 have hln:=hs.2
 clear h h1 hxa hs hin
 by_cases h100:100 < ms.length
 ·have hb:zep ms=100:=by unfold zep; rw[yg h100]
  have HB:=zab hb
  clear hb
  go_enter func73,ntmps73
  go_wp2
  go_ret2
  exact⟨zaa (zag w _) (zag _ _),fun _=>⟨_,_,rfl,by rw[uh HB]; exact zhy w 100 2⟩,fun h=>by rw[uh HB] at h; omega⟩
 ·have t100:¬ (100:Int) < (ms.length:Int):=by omega
  obtain⟨i0,hi,hz0,hz1,hz2⟩:=info_parts zqR
  go_enter func73,ntmps73
  go_wp2_with (at_make; refine wpList_make_own _ rfl _ _ 126 rfl w.heap.size 170 i0 (.pointer none) 1 underlying126 hi hz0 hz1 .i64 .i64 _ ms.length rfl rfl rfl (by rw[hz2]; omega) (by unfold maxLen; omega) (ye _) ?_)
  intro w1 hown1 hgrow1
  have hb1:Below w.heap.size w w1:=(yH _ _).grown hgrow1 (ye _) (by intro k hk; cases hk)
  have HB1:=zab hb1
  have HO1:=zab hown1
  clear hb1 hown1 hgrow1
  go_wp2
  go_loopw [4,23] (fun lv i wr=>∃ (k:Nat) (qs:List OpQ),k<=ms.length/\i = .int .i64 k/\Below w.heap.size w wr/\zvl wr w.heap.size (zvm w.heap.size wr lv) lv (ms.take k) qs/\∀ j (h:j < ms.length),j < k->zdv ms[j]=true) (fun _ i _=>ms.length - (intOf i).toNat)
  case atStart=>exact⟨0,[],yt _,rfl,uh HB1,⟨by simp,uh HO1,fun j m q hm _=>by simp at hm,fun k hk=>hk.2.2⟩,fun j h hj=>by omega⟩
  case round=>
   obtain⟨k,qs,hk,rfl,hb,hL,hgd⟩:=hrel
   have hlen:qs.length=k:=by rw[hL.len,ym]; omega
   obtain⟨la,lc,rfl,hlf⟩ : ∃ la lc,u4 = .slice la k lc/\True:=by
    rcases hL.row.2 with ⟨hv,hn⟩ | ⟨g,cap,cur,hv,_⟩
    ·exact⟨none,0,by rw[hv,← hlen,hn],trivial⟩
    ·exact⟨some ⟨g,0,none⟩,cap,by rw[hv,hlen],trivial⟩
   by_cases hlt:k < ms.length
   ·obtain⟨g,rfl⟩:=uh HXA (by omega)
    obtain⟨vs,ib,hE,hc,_⟩:=((uh H).below hb).at (yx hlt)
    obtain⟨rfl,_⟩:=hE
    have c0:wr.cell? ⟨g,k*4,none⟩=some (.int .i64 ms[k].kind):=(hc 0 _ rfl).1
    have c1:wr.cell? ⟨g,k*4+1,none⟩=some (.string ms[k].path):=(hc 1 _ rfl).1
    have c2:wr.cell? ⟨g,k*4+2,none⟩=some (.string ms[k].src):=(hc 2 _ rfl).1
    have c3:wr.cell? ⟨g,k*4+3,none⟩=some (.string ms[k].val):=(hc 3 _ rfl).1
    have HL:=zab hL
    have HGD:=zab hgd
    have HBR:=zab hb
    clear hc hL hgd hb hlf
    have hA:=zag wr (.cells #[.int .i64 ms[k].kind,.string ms[k].path,.string ms[k].src,.string ms[k].val] 95)
    have zA:(wr.alloc (.cells #[.int .i64 ms[k].kind,.string ms[k].path,.string ms[k].src,.string ms[k].val] 95)).heap.size=wr.heap.size+1:=by simp
    obtain⟨i1,i2,i3⟩:=uh HIN ms[k] (yr hlt)
    have hwA:=hw.up (zaa (uh HBR) hA)
    have HA:=zab hA
    have HZA:=zab zA
    cases hok:zdv ms[k] with
    | false=>
     have HM:=zab (zoX ms[k] _ hok hwA i1 i2 i3)
     have HBAD:Hid (zep ms=(k:Int)):=zku (by omega) hlt hok (uh HGD)
     clear hok hwA hA zA i1 i2 i3
     go_wp2_with fail
     generalize (wr.alloc (.cells #[.int .i64 ms[k].kind,.string ms[k].path,.string ms[k].src,.string ms[k].val] 95))=wA at *
     refine (uh HM).mono ?_
     rintro e w2 ⟨rfl,b2⟩
     have HB2:=zab (zaa (zaa (uh HBR) (uh HA)) b2)
     clear HM b2
     go_wp2
     go_ret2
     exact⟨zaa (zaa (uh HB2) (zag _ _)) (zag _ _),fun _=>⟨_,_,rfl,by rw[uh HBAD]; exact zhy _ _ 2⟩,fun h=>by rw[uh HBAD] at h; omega⟩
    | true=>
     have HM:=zab (zmB ms[k] _ hok hwA i1 i2 i3)
     have HGD2:Hid (∀ j (h:j < ms.length),j < k+1->zdv ms[j]=true):=fun j h hj=>by
      by_cases e:j=k
      ·subst e; exact hok
      ·exact uh HGD j h (by omega)
     clear hok hwA hA zA i1 i2 i3
     go_wp2_with fail
     generalize (wr.alloc (.cells #[.int .i64 ms[k].kind,.string ms[k].path,.string ms[k].src,.string ms[k].val] 95))=wA at *
     refine (uh HM).mono ?_
     rintro e w2 ⟨gq,pv,fv,vv,v,rfl,hat,b2⟩
     have b02:=zaa (uh HA) b2
     have hA3:=zag w2 (.cells #[.pointer (some ⟨gq,0,none⟩)] 170)
     have k3:=yG w2 (.cells #[.pointer (some ⟨gq,0,none⟩)] 170)
     have z02:=b02.size
     have z3:(w2.alloc (.cells #[.pointer (some ⟨gq,0,none⟩)] 170)).heap.size=w2.heap.size+1:=by simp
     have hwr:=(uh HBR).size
     have row3:=zaj (zaj (uh HL).row b02) hA3
     rw[hlen] at row3
     have HAT:=zab hat
     have HB02:=zab b02
     have HA3:=zab hA3
     have HZ3:=zab z3
     have cx:(w2.alloc (.cells #[.pointer (some ⟨gq,0,none⟩)] 170)).cell? ⟨w2.heap.size,0,none⟩=some (.pointer (some ⟨gq,0,none⟩)):=yF k3 0
     have HR3:=zab row3
     have HCX:=zab cx
     clear HM hat b2 b02 hA3 k3 z3 row3 cx
     go_wp2_with (at_builtin; refine zfS underlying126 zqR rfl (by decide) rfl (.tmp 42) (.tmp 44) rfl (B:=w.heap.size) rfl (uh HR3) (y:=.pointer (some ⟨gq,0,none⟩)) rfl rfl (uh HCX) (by have:=uh HZ3; omega) (by omega) ?_)
     intro lv' w4 hrow4 hg4 hwh4
     obtain⟨la',lc',rfl⟩ : ∃ la lc,lv' = .slice la (k+1) lc:=by
      rcases hrow4.2 with ⟨_,hn⟩ | ⟨g,cap,cur,hv,_⟩
      ·omega
      ·exact⟨_,_,hv⟩
     have hL4:=zvl.snoc (q:=⟨gq,pv,fv,vv,v⟩) (uh HL) (uh HB02) (uh HAT) (by have:=uh HZA; omega) hwr (uh HA3) (by rw[hlen]; exact hrow4) hg4 (by rw[uh HZ3]; exact hwh4)
     rw[← yy hlt] at hL4
     have HL4:=zab hL4
     have HB4:=zab ((zaa (zaa (uh HBR) (uh HB02)) (uh HA3)).grown hg4 (by have:=uh HZ3; omega) (fun b hb=>((uh HL).row.lt b hb).1))
     clear hL4 hrow4 hg4 hwh4 HL HAT HB02 HA3 HZ3 HR3 HCX HBR HA HZA c0 c1 c2 c3
     go_wp2
     go_roundw
     case rel=>exact⟨k+1,_,by omega,by go_num,uh HB4,uh HL4,uh HGD2⟩
     case measure=>simp[intOf]; omega
   ·have hk':k=ms.length:=by omega
    subst hk'
    rw[List.take_length] at hL
    have HBAD:Hid (zep ms = -1):=zkv (by omega) (fun j h=>hgd j h h)
    have HL:=zab hL
    have HBR:=zab hb
    clear hL hb hgd hlf
    go_wp2
    go_ret2
    exact⟨uh HBR,fun h=>(by rw[uh HBAD] at h; omega),fun _=>⟨_,qs,rfl,uh HL⟩⟩
def TrA (w:World) (v:JV) (x:Value) : Prop:=Rep w (fun k=>k < w.heap.size) v x
theorem TrA.next {w w':World} {v:JV} {x:Value} (h:TrA w v x) (hb:Below w.heap.size w w') : TrA w' v x:=
 Rep.keep (fun k hk=>hb.block k hk) (fun _ hk=>yE hk hb.size) _ _ h
def zbI (w:World) (o:Nat⊕JV) (e:Ending) (w':World) : Prop:=Below w.heap.size w w' /\
 ((∃ c ev,o = .inl c/\e = .returned (.tuple #[.nilIface,ev])/\zoY w' (c:Int) ev)∨∃ u t p,o = .inr u/\e = .returned (.tuple #[.iface t p,.nilIface])/\TrA w' u (.iface t p))
theorem zea (v:JV) (hv:GdT v) (ts:List (List UInt8)) (a:Option Addr) (g off cap:Nat) (w:World) (ty:TypeId) (p:Value) (hr:TrA w v (.iface ty p)) (hs:SS w a g off (ts.map baT)) (hn:ts.length<=1048577) (ht:∀ t∈ts,t.length<=1048576) :
  Calls prog 219 #[.iface ty p,.slice a ts.length cap] w (zbI w (zc4 3 (za0 v ts))):=by
 have REP:=zab hr
 have HV0:=zab hv
 have hadr:=hs.ad
 have HCE:=zab hs.cell
 simp only[yl] at hadr HCE
 clear hr hs hv
 go_enter func219,ntmps219
 go_wp2_with fail
 go_loopw [6,7,13] (fun vv bv iv wr=>∃ (k:Nat) (u:JV) (ty:TypeId) (p:Value),k<=ts.length/\iv = .int .i64 (k:Int)/\bv = .bool true/\vv = .iface ty p/\za0 v (ts.take k)=some u/\GdT u/\TrA w u (.iface ty p)/\w=wr) (fun _ _ iv _=>ts.length - (intOf iv).toNat)
 case atStart=>exact⟨0,v,ty,p,yt _,rfl,rfl,rfl,rfl,uh HV0,uh REP,rfl⟩
 case round=>
  obtain⟨k,u,ty,p,hk,rfl,rfl,rfl,hg,hgu,hrep,rfl⟩:=hrel
  clear REP HV0
  by_cases hlt:k < ts.length
  ·have hltI:(k:Int) < (ts.length:Int):=by omega
   obtain rfl:=hadr (by omega)
   have hck:=uh HCE k hlt
   rw[zgC hlt] at hck
   have hgd:baT (ts.getD k [])=zac ts[k]:=by simp[List.getD,hlt,baT,zac]
   rw[hgd] at hck
   have HC:=zab (zbE u hgu.tw ts[k] (by have:=ht _ (yr hlt); omega) ty p w _ hrep)
   have HST:Hid (zal u ts[k]=none->za0 v ts=none):=fun hc=>zlv hlt hg hc
   have HNX:Hid (∀ u',zal u ts[k]=some u'->za0 v (ts.take (k+1))=some u'/\GdT u'):=fun u' hc=>⟨by rw[zh2 hlt hg]; exact hc,hgu.child hc⟩
   generalize zac ts[k]=st at *
   clear hg hrep hgd HCE hgu
   go_wp2_with fail
   refine (uh HC).mono ?_
   rintro e w3 ⟨rfl,⟨x,rfl,hcn⟩ | ⟨x,u',rfl,hcs,hru⟩⟩
   ·have HV:=zab (uh HST hcn)
    clear HC HST HNX hck hcn
    go_wp2
    go_ret2
    exact⟨zag _ _,.inl ⟨3,_,by rw[uh HV]; rfl,rfl,_,rfl,yG _ _⟩⟩
   ·have HN:=zab (uh HNX u' hcs)
    obtain⟨ty',p',rfl⟩:=za8 hru
    have HRU:=zab hru
    clear HC HST HNX hck hcs hru
    go_wp2
    go_roundw
    case rel=>exact⟨k+1,u',ty',p',by omega,by go_num,rfl,rfl,(uh HN).1,(uh HN).2,uh HRU,trivial⟩
    case measure=>simp[intOf]; omega
  ·have e:ts.take k=ts:=yq (by omega)
   rw[e] at hg
   have HG:=zab hg
   have HR:=zab hrep
   clear hg hrep e HCE hgu
   go_wp2
   go_ret2
   exact⟨yH _ _,.inr ⟨u,ty,p,by rw[uh HG]; rfl,rfl,uh HR⟩⟩
theorem zwx {v:JV} (h:rdV v) : zaA v<=(ct v).length/\zaY v<=zaA v:=by
 have hd:=(zfF (zuF h)).2.1
 rw[zaf,(zpx v).cnt] at hd
 exact⟨hd,(zeh v).1⟩
theorem zf9 (v:JV) (hr:rdV v) (htw:twV v=false) (w:World) (S:Nat->Prop) (t:TypeId) (p:Value) (rep:Rep w S v (.iface t p)) (hS:∀ k,S k->k < w.heap.size) (hP:zjs w.heap.size w) (hl:(ct v).length<=10000000) :
  Calls prog 137 #[.iface t p] w fun e w'=>e = .returned (.bool (decide (zaY v<=100/\zaA v<=3000/\(ct v).length<=20000)))/\Below w.heap.size w w':=by
 obtain⟨h1,h2⟩:=zwx hr
 have HC:=zab (zs2 v (zlD v hr) htw w S t p rep hS hP hl (by omega) (by omega))
 clear hr htw rep hS hP
 generalize zaY v=d at *
 generalize zaA v=c at *
 generalize (ct v).length=n at *
 obtain⟨z,hz⟩ : ∃ z,decide (d<=100/\c<=3000/\n<=20000)=z:=⟨_,rfl⟩
 rw[hz]
 have HZ:=zab hz
 clear hz
 go_enter func137,ntmps137
 go_wp2_with fail
 refine (uh HC).mono ?_
 rintro e w1 ⟨rfl,b1⟩
 have HB:=zab (b1.alloc b1.size (szB d c n))
 clear HC b1
 simp only[szV]
 by_cases hd:d<=100
 ·have td:(d:Int)<=100:=by omega
  by_cases hc:c<=3000
  ·have tc:(c:Int)<=3000:=by omega
   by_cases hn:n<=20000
   ·have tn:(n:Int)<=20000:=by omega
    have HD:Hid (z=true):=(uh HZ).symm.trans (yj ⟨hd,hc,hn⟩)
    clear hd hc hn
    go_wp2
    go_ret
    exact⟨by rw[uh HD]; rfl,uh HB⟩
   ·have tn:¬ (n:Int)<=20000:=by omega
    have HD:Hid (z=false):=(uh HZ).symm.trans (yk (fun h=>hn h.2.2))
    clear hd hc hn
    go_wp2
    go_ret
    exact⟨by rw[uh HD]; rfl,uh HB⟩
  ·have tc:¬ (c:Int)<=3000:=by omega
   have HD:Hid (z=false):=(uh HZ).symm.trans (yk (fun h=>hc h.2.1))
   clear hd hc
   go_wp2
   go_ret
   exact⟨by rw[uh HD]; rfl,uh HB⟩
 ·have td:¬ (d:Int)<=100:=by omega
  have HD:Hid (z=false):=(uh HZ).symm.trans (yk (fun h=>hd h.1))
  clear hd
  go_wp2
  go_ret
  exact⟨by rw[uh HD]; rfl,uh HB⟩
def zdD (w:World) (N:Nat) : List Ver->Value->Prop
 | [],v=>v = .pointer none
 | m :: r,v=>∃ (b:Nat) (q:Value) (t:TypeId) (p v':Value) (bl:List Nat) (jv:JV),v = .pointer (some ⟨b,0,none⟩)/\b < N/\w.heap[b]?=some (.cells #[.int .i64 m.no,.string m.doc,q,.iface t p,v'] 109 (0,0)) /\
  zmc w q m.touched bl/\zaZ m.doc = .inr jv/\zac (ct jv)=m.doc/\Rep w (fun k=>k < N) jv (.iface t p)/\zdD w N r v'
theorem zdD.up {w w':World} {N N':Nat} (hb:Below w.heap.size w w') (hN:N<=w.heap.size) (hN':N<=N') : ∀ {l:List Ver} {v:Value},zdD w N l v->zdD w' N' l v
 | [],_,h=>h
 | m :: r,v,h=>by
  obtain⟨b,q,t,p,v',bl,jv,h1,h2,h3,h4,h5,h6,h7,h8⟩:=h
  exact⟨b,q,t,p,v',bl,jv,h1,by omega,(hb.block b (by omega)).trans h3,h4.below hb,h5,h6,Rep.keep (fun k hk=>hb.block k (yE hk hN)) (fun k hk=>yE hk hN') _ _ h7,zdD.up hb hN hN' h8⟩
def zkX:List Ver->Int->Bool
 | [],no=>decide (0<=no) && decide (no<=1000000)
 | m :: _,no=>no == m.no+1
theorem zmC (v:Value) (l:List Ver) (N:Nat) (no:Int) (w:World) (h:zdD w N l v) (hr:∀ m,l.head?=some m->0<=m.no/\m.no<=2000000) :
  Calls prog 54 #[v,.int .i64 no] w fun e w'=>e = .returned (.bool (zkX l no))/\Below w.heap.size w w':=by
 match l,h with
 | [],h=>
  rw[zdD] at h
  subst h
  exact zhw no w
 | m :: r,h=>
  rw[zdD] at h
  obtain⟨b,q,t,p,v',bl,jv,rfl,_,h3,_⟩:=h
  obtain⟨h0,h1⟩:=hr m rfl
  exact zhx b m.no no w (yF h3 0) h0 h1
theorem zdD.ptr {w:World} {N:Nat} {l:List Ver} {v:Value} (h:zdD w N l v) : ∃ a,v = .pointer a:=by
 match l,h with
 | [],h=>exact⟨_,h⟩
 | m :: r,h=>obtain⟨b,q,t,p,v',bl,jv,h1,_⟩:=h; exact⟨_,h1⟩
theorem znR {vs:List Ver} {k:Nat} (hk:0 < k) (h:k<=vs.length) : ∃ r,(vs.take k).reverse=vs[k - 1] :: r:=by
 obtain⟨j,rfl⟩ : ∃ j,k=j+1:=⟨k - 1,by omega⟩
 rw[yy (by omega),List.reverse_append]
 exact⟨_,rfl⟩
theorem zuf {vs:List Ver} {k:Nat} (h0:0 < vs.length) (hk:k < vs.length) (hall:∀ j (h:j < vs.length),j < k->zcl vs[0].no j vs[j]=true) :
  zkX (vs.take k).reverse vs[k].no=true↔vs[k].no=vs[0].no+k/\(k=0->0<=vs[0].no/\vs[0].no<=1000000):=by
 by_cases e:k=0
 ·subst e
  simp[zkX]
 ·obtain⟨r,hr⟩:=znR (k:=k) (by omega) (by omega:k<=vs.length)
  have h1:=(zfc.1 (hall (k - 1) (by omega) (by omega))).1
  rw[hr,zkX,yC,h1]
  constructor
  ·intro h; exact⟨by omega,fun h=>absurd h e⟩
  ·rintro⟨h,_⟩; omega
theorem zvn {vs:List Ver} {k:Nat} (h0:0 < vs.length) (hk:k < vs.length) (hall:∀ j (h:j < vs.length),j < k->zcl vs[0].no j vs[j]=true) (hbad:zbp vs[k].doc=false∨zkX (vs.take k).reverse vs[k].no=false∨zbw vs[k].touched=false) : zaS vs=false:=by
 refine zcB ?_
 rintro⟨_,_,h1,h2,h3⟩
 obtain⟨a,b,c⟩:=zfc.1 (h3 k hk)
 rcases hbad with h | h | h
 ·rw[b] at h; cases h
 ·rw[(zuf h0 hk hall).2 ⟨a,fun _=>⟨h1,h2⟩⟩] at h; cases h
 ·rw[c] at h; cases h
def HdP (vs:List Ver) (w:World) (e:Ending) (w':World) : Prop:=Below w.heap.size w w'/\(zaS vs=false->e = .returned (.tuple #[.pointer none,.bool false])) /\
 (zaS vs=true->∃ v,e = .returned (.tuple #[v,.bool true])/\zdD w' w'.heap.size vs.reverse v)
theorem zmD (p:Value) (vs:List Ver) (bl:List Nat) (w:World) (h:zbt zeS w p vs bl) (hs:za2 vs<=1048576) (hw:RdW w) :
  Calls prog 26 #[.agg #[p]] w (HdP vs w):=by
 obtain⟨xa,xc,rfl,-,hxa⟩:=h.form
 have hln:vs.length<=9223372036854775807:=by have:=h.len; unfold maxLen at this; omega
 have hA:=zag w (.cells #[.slice xa vs.length xc] 35)
 have kA:=yG w (.cells #[.slice xa vs.length xc] 35)
 have HO:=zab (h.below hA)
 have HA:=zab hA
 have HI:=zab (zpU hs)
 have HXA:=zab hxa
 have HW:=zab (hw.up hA)
 clear h hs hA hw hxa
 by_cases hn8:8 < vs.length
 ·have HZ:Hid (zaS vs=false):=zcB (by rintro⟨_,h,_⟩; omega)
  clear kA
  go_enter func26,ntmps26
  go_wp2
  go_ret2
  exact⟨uh HA,fun _=>rfl,fun h=>by rw[uh HZ] at h; cases h⟩
 ·go_enter func26,ntmps26
  go_wp2
  clear kA
  generalize (w.alloc (.cells #[.slice xa vs.length xc] 35))=wA at *
  go_loopw [4,16] (fun hd i wr=>∃ k:Nat,k<=vs.length/\i = .int .i64 k/\Below wA.heap.size wA wr/\zdD wr wr.heap.size (vs.take k).reverse hd/\(∀ (h0:0 < vs.length),(∀ j (h:j < vs.length),j < k->zcl vs[0].no j vs[j]=true)/\(0 < k->0<=vs[0].no/\vs[0].no<=1000000))) (fun _ i _=>vs.length - (intOf i).toNat)
  case atStart=>exact⟨0,yt _,rfl,yH _ _,rfl,fun _=>⟨fun j _ h=>by omega,fun h=>by omega⟩⟩
  case round=>
   obtain⟨k,hk,rfl,hb,hch,hall⟩:=hrel
   have HCH:=zab hch
   have HBR:=zab hb
   have HALL:=zab hall
   obtain⟨ha,rfl⟩:=hch.ptr
   by_cases hlt:k < vs.length
   ·have h0:0 < vs.length:=by omega
    obtain⟨hall1,hall2⟩:=hall h0
    have HNO:Hid (zbp vs[k].doc=false∨zkX (vs.take k).reverse vs[k].no=false∨zbw vs[k].touched=false->zaS vs=false):=zvn h0 hlt hall1
    have HYES:Hid (zbp vs[k].doc=true->zkX (vs.take k).reverse vs[k].no=true->zbw vs[k].touched=true->∀ (h0:0 < vs.length),(∀ j (h:j < vs.length),j < k+1->zcl vs[0].no j vs[j]=true)/\(0 < k+1->0<=vs[0].no/\vs[0].no<=1000000)):=fun a1 a2 a3 _=>by
     obtain⟨b1,b2⟩:=(zuf h0 hlt hall1).1 a2
     refine⟨fun j h hj=>?_,fun _=>?_⟩
     ·by_cases e:j=k
      ·subst e; exact zfc.2 ⟨b1,a1,a3⟩
      ·exact hall1 j h (by omega)
     ·by_cases e:k=0
      ·exact b2 e
      ·exact hall2 (by omega)
    have hrg:∀ m,(vs.take k).reverse.head?=some m->0<=m.no/\m.no<=2000000:=fun m hm=>by
     by_cases e:k=0
     ·subst e; simp at hm
     ·obtain⟨r,hr⟩:=znR (vs:=vs) (k:=k) (by omega) (by omega)
      rw[hr] at hm
      injection hm with hm
      subst hm
      have h1:=(zfc.1 (hall1 (k - 1) (by omega) (by omega))).1
      obtain⟨h2,h3⟩:=hall2 (by omega)
      omega
    have HRG:=zab hrg
    have HREV:Hid ((vs.take (k+1)).reverse=vs[k] :: (vs.take k).reverse):=by
     show _=_
     rw[yy hlt,List.reverse_append]; rfl
    obtain⟨g,rfl⟩:=uh HXA h0
    obtain⟨hd1,hp1,hl1⟩:=uh HI k hlt
    obtain⟨cs,ib,hE,hc,-⟩:=((uh HO).below hb).at (yx hlt)
    obtain⟨q,rfl,hq⟩:=hE
    obtain⟨ta,tc,rfl,-,-⟩:=hq.form
    have c0:wr.cell? ⟨g,k*3,none⟩=some (.int .i64 vs[k].no):=(hc 0 _ rfl).1
    have c1:wr.cell? ⟨g,k*3+1,none⟩=some (.string vs[k].doc):=(hc 1 _ rfl).1
    have c2:wr.cell? ⟨g,k*3+2,none⟩=some (.slice ta vs[k].touched.length tc):=(hc 2 _ rfl).1
    have HQ:=zab hq
    clear hc hq hrg hall1 hall2 hall hch hb
    generalize (vs.take k).reverse=l at *
    generalize vs[k]=m at *
    obtain⟨no,doc,tch⟩:=m
    simp only at c0 c1 c2 hd1 hp1 hl1
    have hV:=zag wr (.cells #[.int .i64 no,.string doc,.slice ta tch.length tc] 57)
    have kV:=yG wr (.cells #[.int .i64 no,.string doc,.slice ta tch.length tc] 57)
    have zV:(wr.alloc (.cells #[.int .i64 no,.string doc,.slice ta tch.length tc] 57)).heap.size=wr.heap.size+1:=by simp
    have hwV:=(uh HW).up (zaa (uh HBR) hV)
    have HR:=zab (zeQ doc _ hwV.tab hwV.err hwV.pow (by omega))
    have HML:=zab hwV.ml
    have HKV:=zab kV
    have HZV:=zab zV
    have HV:=zab hV
    have HP1:=zab hp1
    clear hV kV zV hwV hp1
    go_wp2_with fail
    generalize (wr.alloc (.cells #[.int .i64 no,.string doc,.slice ta tch.length tc] 57))=wV at *
    refine (uh HR).mono ?_
    rintro e w2 ⟨b2,hno,hyes⟩
    have HB2:=zab b2
    have k2:=(b2.block wr.heap.size (by have:=uh HZV; omega)).trans (uh HKV)
    cases hg:zbp doc with
    | false=>
     obtain rfl:=hno hg
     have HZ:=zab (uh HNO (.inl hg))
     clear hno hyes b2 k2 hg c0 c1 c2
     go_wp2
     go_ret2
     exact⟨zaa (uh HA) (zaa (uh HBR) (zaa (uh HV) (uh HB2))),fun _=>rfl,fun h=>by rw[uh HZ] at h; cases h⟩
    | true=>
     obtain⟨jv,t,p,hr,hct,rfl,rep⟩:=hyes hg
     have HRR:=zab hr
     have HCT:=zab hct
     have HREP:=zab rep
     have HG:=zab hg
     have b02:=zaa (uh HV) b2
     have HCH2:=zab (zdD.up b02 (ye _) b02.size (uh HCH))
     have HF:=zab (zmC _ l _ no w2 (uh HCH2) (uh HRG))
     have v0:w2.cell? ⟨wr.heap.size,0,none⟩=some (.int .i64 no):=yF k2 0
     have HB02:=zab b02
     have HK2:=zab k2
     have hsz:=b02.size
     have hs1:wr.heap.size < w2.heap.size:=by have:=uh HZV; have:=b2.size; omega
     clear hno hyes b2 k2 hg rep hr hct b02 c0 c1 c2 HR HCH
     obtain⟨fo,hfo⟩ : ∃ fo,zkX l no=fo:=⟨_,rfl⟩
     rw[hfo] at HF
     have HFO:=zab hfo
     clear hfo
     go_wp2_with fail
     refine (uh HF).mono ?_
     rintro e w3 ⟨rfl,b3⟩
     have k3:=(b3.block wr.heap.size hs1).trans (uh HK2)
     have v2:w3.cell? ⟨wr.heap.size,2,none⟩=some (.slice ta tch.length tc):=yF k3 2
     have HB3:=zab (zaa (uh HB02) b3)
     have hs3:=b3.size
     cases fo with
     | false=>
      have HZ:=zab (uh HNO (.inr (.inl (uh HFO))))
      clear b3 k3 v0 v2 HF
      go_wp2
      go_ret2
      exact⟨zaa (uh HA) (zaa (uh HBR) (uh HB3)),fun _=>rfl,fun h=>by rw[uh HZ] at h; cases h⟩
     | true=>
      have HT:=zab (zgw _ tch ib w3 ((uh HQ).below (uh HB3)) ((uh HML).below (zaa (uh HB2) b3)) (uh HP1))
      have HCH3:=zab (zdD.up b3 (ye _) b3.size (uh HCH2))
      have HREP3:=zab (Rep.keep (S':=fun k=>k < w3.heap.size) (fun k hk=>b3.block k hk.2) (fun k hk=>yE hk.2 b3.size) _ _ (uh HREP))
      have HK3:=zab k3
      clear b3 k3 v0 HF HCH2 HREP
      obtain⟨tq,htq⟩ : ∃ tq,zbw tch=tq:=⟨_,rfl⟩
      rw[htq] at HT
      have HTQ:=zab htq
      clear htq
      go_wp2_with fail
      refine (uh HT).mono ?_
      rintro e w4 ⟨rfl,b4⟩
      have HB4:=zab (zaa (uh HB3) b4)
      cases tq with
      | false=>
       have HZ:=zab (uh HNO (.inr (.inr (uh HTQ))))
       clear b4 v2 HT
       go_wp2
       go_ret2
       exact⟨zaa (uh HA) (zaa (uh HBR) (uh HB4)),fun _=>rfl,fun h=>by rw[uh HZ] at h; cases h⟩
      | true=>
       have k4:=(b4.block wr.heap.size (by omega)).trans (uh HK3)
       have x0:w4.cell? ⟨wr.heap.size,0,none⟩=some (.int .i64 no):=yF k4 0
       have x1:w4.cell? ⟨wr.heap.size,1,none⟩=some (.string doc):=yF k4 1
       have x2:w4.cell? ⟨wr.heap.size,2,none⟩=some (.slice ta tch.length tc):=yF k4 2
       have hR:=zag w4 (.cells #[.int .i64 no,.string doc,.slice ta tch.length tc,.iface t p,.pointer ha] 109)
       have kR:=yG w4 (.cells #[.int .i64 no,.string doc,.slice ta tch.length tc,.iface t p,.pointer ha] 109)
       have zR:(w4.alloc (.cells #[.int .i64 no,.string doc,.slice ta tch.length tc,.iface t p,.pointer ha] 109)).heap.size=w4.heap.size+1:=by simp
       have b34:=zaa b4 hR
       have hs4:=b4.size
       have HNEW:Hid (zdD (w4.alloc (.cells #[.int .i64 no,.string doc,.slice ta tch.length tc,.iface t p,.pointer ha] 109)) (w4.alloc (.cells #[.int .i64 no,.string doc,.slice ta tch.length tc,.iface t p,.pointer ha] 109)).heap.size (⟨no,doc,tch⟩ :: l) (.pointer (some ⟨w4.heap.size,0,none⟩))):=
        ⟨w4.heap.size,_,t,p,_,ib,jv,rfl,by omega,kR,(uh HQ).below (zaa (uh HB3) b34),uh HRR,uh HCT,Rep.keep (fun k hk=>b34.block k hk) (fun k hk=>yE hk b34.size) _ _ (uh HREP3),zdD.up b34 (ye _) b34.size (uh HCH3)⟩
       have HBN:=zab (zaa (uh HBR) (zaa (uh HB3) b34))
       have HY:=zab (uh HYES (uh HG) (uh HFO) (uh HTQ))
       clear b4 v2 HT k4 hR kR zR b34 hs4 HCH3 HREP3 HK3
       go_wp2
       go_roundw
       case rel=>exact⟨k+1,by omega,by go_num,uh HBN,by rw[uh HREV]; exact uh HNEW,uh HY⟩
       case measure=>simp[intOf]; omega
   ·have hkn:k=vs.length:=by omega
    subst hkn
    rw[List.take_length] at HCH
    by_cases h0:0 < vs.length
    ·have HZ:Hid (zaS vs=true):=zdx.2 ⟨h0,by omega,((hall h0).2 h0).1,((hall h0).2 h0).2,fun j hj=>(hall h0).1 j hj hj⟩
     obtain⟨b,hbp⟩ : ∃ b,ha=some ⟨b,0,none⟩:=by
      have hc:=uh HCH
      cases hv:vs.reverse with
      | nil=>rw[List.reverse_eq_nil_iff] at hv; rw[hv] at h0; simp at h0
      | cons m r=>
       rw[hv,zdD] at hc
       obtain⟨b,q,t,p,v',bl',jv,h1,_⟩:=hc
       injection h1 with h1
       exact⟨b,h1⟩
     subst hbp
     clear hall hb hch
     go_wp2
     go_ret2
     exact⟨zaa (uh HA) (uh HBR),fun h=>(by rw[uh HZ] at h; cases h),fun _=>⟨_,rfl,uh HCH⟩⟩
    ·have e:vs=[]:=yN (by omega)
     subst e
     have hc:=uh HCH
     simp only[List.reverse_nil] at hc
     rw[zdD] at hc
     injection hc with hc
     subst hc
     clear hall hb hch
     go_wp2
     go_ret2
     exact⟨zaa (uh HA) (uh HBR),fun _=>rfl,fun h=>by cases h⟩
theorem zkY {B:Nat} {a b c:World} (hB:B<=a.heap.size) (h:Below B a b) (k:Below b.heap.size b c) : Below B a c:=h.trans (k.mono (yP hB h.size))
theorem zjH (v:JV) (hok:okV v) (htw:twV v=false) (hl:(ct v).length<=1000000) (ty:TypeId) (p:Value) (w:World) (S:Nat->Prop) (h:Rep w S v (.iface ty p)) (hS:∀ k,S k->k < w.heap.size) (hw:RdW w) :
  Calls prog 103 #[.iface ty p] w (DcP v w):=by
 have HREP:Hid (∀ wx,Below w.heap.size w wx->Rep wx S v (.iface ty p)):=fun wx hx=>Rep.keep (fun k hk=>hx.block k (hS k hk)) (fun _ h=>h) _ _ h
 have HSM:Hid (∀ (t:List UInt8) (wx:World),t.length<=100->Below w.heap.size w wx->Calls prog 132 #[.iface ty p,.string (zac t)] wx fun e w'=>e = .returned (.tuple #[.string (zac ((zbm v t).getD [])),.bool (zbm v t).isSome])/\wx=w'):=fun t wx ht hx=>zdi v htw t (by omega) ty p wx S (uh HREP wx hx)
 have HPM:Hid (∀ (t:List UInt8) (wx:World),t.length<=100->Below w.heap.size w wx->Calls prog 135 #[.iface ty p,.string (zac t)] wx fun e w'=>e = .returned (.tuple #[.string (zac ((zbm v t).getD [])),.bool ((zbm v t).isSome && (zar ((zbm v t).getD [])).isSome)])/\Below wx.heap.size wx w'):=fun t wx ht hx=>zfn v hok htw hl t (by omega) ty p wx S (uh HREP wx hx) (hw.up hx).ml
 have kR:=yG w (.cells #[.int .i64 0,.string ⟨#[]⟩,.string ⟨#[]⟩,.string ⟨#[]⟩] 95)
 have hR:=zag w (.cells #[.int .i64 0,.string ⟨#[]⟩,.string ⟨#[]⟩,.string ⟨#[]⟩] 95)
 have zR:(w.alloc (.cells #[.int .i64 0,.string ⟨#[]⟩,.string ⟨#[]⟩,.string ⟨#[]⟩] 95)).heap.size=w.heap.size+1:=by simp
 have HM1:=zab (uh HSM kOp _ (by decide) hR)
 have HRR:=zab hR
 have HKR:Hid (zfi (w.alloc (.cells #[.int .i64 0,.string ⟨#[]⟩,.string ⟨#[]⟩,.string ⟨#[]⟩] 95)) w.heap.size op0):=kR
 have HZR:=zab zR
 have HSL:=zab hS
 clear kR hR zR h hS
 cases hsm:zbm v kOp with
 | none=>
  have HDF:Hid (zaT v=false):=by
   show _=_
   have e:zer v=0:=by unfold zer; rw[hsm]
   unfold zaT; rw[e]; rfl
  rw[hsm] at HM1
  clear hsm
  go_enter func103,ntmps103
  go_wp2_with fail
  generalize (w.alloc (.cells #[.int .i64 0,.string ⟨#[]⟩,.string ⟨#[]⟩,.string ⟨#[]⟩] 95))=wR at *
  refine (uh HM1).mono ?_
  rintro e wR' ⟨rfl,rfl⟩
  have hN:=zag wR (.cells #[.string (zac ([] : List UInt8))] 9)
  have hrb:=(uh HKR).below hN
  have HRB:=zab hrb
  have HBW:=zab (zaa (uh HRR) hN)
  have r0:=hrb.c
  have rz:=hrb.fz
  clear hN hrb HM1
  go_wp2
  refine bodyPost_ret (zam rfl _ _ w.heap.size 95 #[_,_,_,_] (0,0) _ _ rfl rfl (zat (uh HRB) [_,_,_,_] rfl) underlying95 rfl (by kernel_rfl)) rfl ?_
  exact⟨zah (uh HBW) (ye _) [_,_,_,_] 0,op0,by rw[uh HDF]; rfl,fun h=>by rw[uh HDF] at h; cases h⟩
 | some t=>
  have HKD:Hid (zer v=zaM t):=by show _=_; unfold zer; rw[hsm]
  rw[hsm] at HM1
  have hKr:=zd1 t
  clear hsm
  have ht0:(some t).getD []=t:=rfl
  rw[ht0] at HM1
  clear ht0
  go_enter func103,ntmps103
  go_wp2_with fail
  generalize (w.alloc (.cells #[.int .i64 0,.string ⟨#[]⟩,.string ⟨#[]⟩,.string ⟨#[]⟩] 95))=wR at *
  refine (uh HM1).mono ?_
  rintro e wR' ⟨rfl,rfl⟩
  have hN:=zag wR (.cells #[.string (zac t)] 9)
  have kN:=yG wR (.cells #[.string (zac t)] 9)
  have HRX:Hid (∀ wx,Below (wR.alloc (.cells #[.string (zac t)] 9)).heap.size (wR.alloc (.cells #[.string (zac t)] 9)) wx->zfi wx w.heap.size op0/\Below w.heap.size w wx):=fun wx hx=>⟨((uh HKR).below hN).below hx,zaa (zaa (uh HRR) hN) hx⟩
  by_cases hK:zaM t=0
  ·have HDF:Hid (zaT v=false):=by
    show _=_
    unfold zaT; rw[uh HKD,hK]; rfl
   have HF:=zab (zsN wR.heap.size t _ kN (by omega))
   unfold zcw at HF
   clear HM1 hN kN hK hKr
   go_wp2_with fail
   generalize (wR.alloc (.cells #[.string (zac t)] 9))=wN at *
   refine (uh HF).mono ?_
   rintro e w3 ⟨rfl,b3⟩
   have b3v:=zaa b3 (zag w3 (.cells #[.string ⟨#[]⟩,.int .i64 0,.bool false,.bool false,.bool false,.bool false,.nilFunc] 202))
   clear HF b3
   obtain⟨hrb,hbw⟩:=uh HRX _ (b3v)
   have r0:=hrb.c
   have rz:=hrb.fz
   have HRB:=zab hrb
   have HBW:=zab hbw
   clear hrb hbw
   go_wp2
   refine bodyPost_ret (zam rfl _ _ w.heap.size 95 #[_,_,_,_] (0,0) _ _ rfl rfl (zat (uh HRB) [_,_,_,_] rfl) underlying95 rfl (by kernel_rfl)) rfl ?_
   exact⟨zah (uh HBW) (ye _) [_,_,_,_] 0,op0,by rw[uh HDF]; rfl,fun h=>by rw[uh HDF] at h; cases h⟩
  ·have HF:=zab (zqs wR.heap.size t _ kN (by omega) (by omega))
   obtain⟨fid,hfid⟩ : ∃ fid,zd4 (zaM t) = .func (Fn.func fid) #[] #[]:=by
    unfold zd4
    repeat' split
    all_goals exact⟨_,rfl⟩
   unfold zoL at HF
   rw[hfid] at HF
   have HKZ:=zab hK
   clear HM1 hN kN hfid
   generalize zaM t=K at *
   obtain⟨hf,hhf⟩ : ∃ hf,zfN K=hf:=⟨_,rfl⟩
   obtain⟨hv,hhv⟩ : ∃ hv,zc9 K=hv:=⟨_,rfl⟩
   rw[hhf,hhv] at HF
   have HHF:=zab hhf
   have HHV:=zab hhv
   clear hhf hhv hK hKr
   generalize zjn K=wb at *
   generalize shF K=sf at *
   generalize shP K=sp at *
   go_wp2_with fail
   generalize (wR.alloc (.cells #[.string (zac t)] 9))=wN at *
   refine (uh HF).mono ?_
   rintro e w3 ⟨rfl,b3⟩
   have HZ3:=zab (uh HRX w3 b3).2.size
   have hV:=zag w3 (.cells #[.string wb,.int .i64 K,.bool hf,.bool hv,.bool sf,.bool sp,.func (Fn.func fid) #[] #[]] 202)
   have kV:=yG w3 (.cells #[.string wb,.int .i64 K,.bool hf,.bool hv,.bool sf,.bool sp,.func (Fn.func fid) #[] #[]] 202)
   have zV:(w3.alloc (.cells #[.string wb,.int .i64 K,.bool hf,.bool hv,.bool sf,.bool sp,.func (Fn.func fid) #[] #[]] 202)).heap.size=w3.heap.size+1:=by simp
   have bV:=zaa b3 hV
   have hO:=zag (w3.alloc (.cells #[.string wb,.int .i64 K,.bool hf,.bool hv,.bool sf,.bool sp,.func (Fn.func fid) #[] #[]] 202)) (.cells #[.int .i64 K,.string ⟨#[]⟩,.string ⟨#[]⟩,.string ⟨#[]⟩] 95)
   have kO:=yG (w3.alloc (.cells #[.string wb,.int .i64 K,.bool hf,.bool hv,.bool sf,.bool sp,.func (Fn.func fid) #[] #[]] 202)) (.cells #[.int .i64 K,.string ⟨#[]⟩,.string ⟨#[]⟩,.string ⟨#[]⟩] 95)
   rw[zV] at kO
   have bO:=zaa bV hO
   have HBO:=zab bO
   have HM5:=zab (uh HPM zcp _ (by decide) (uh HRX _ bO).2)
   have HVC:Hid (∀ wx,Below (w3.heap.size+1) (w3.alloc (.cells #[.string wb,.int .i64 K,.bool hf,.bool hv,.bool sf,.bool sp,.func (Fn.func fid) #[] #[]] 202)) wx->wx.cell? ⟨w3.heap.size,2,none⟩=some (.bool hf)/\wx.cell? ⟨w3.heap.size,3,none⟩=some (.bool hv)):=fun wx hx=>by
    have k:=(hx.block w3.heap.size (by omega)).trans kV
    exact⟨yF k 2,yF k 3⟩
   have HKO:Hid (zfi ((w3.alloc (.cells #[.string wb,.int .i64 K,.bool hf,.bool hv,.bool sf,.bool sp,.func (Fn.func fid) #[] #[]] 202)).alloc (.cells #[.int .i64 K,.string ⟨#[]⟩,.string ⟨#[]⟩,.string ⟨#[]⟩] 95)) (w3.heap.size+1) ⟨K,⟨#[]⟩,⟨#[]⟩,⟨#[]⟩⟩):=kO
   have HHO:=zab hO
   have HZV:=zab zV
   clear HF b3 hV kV zV bV hO kO bO
   go_wp2_with fail
   have bO:=uh HBO
   obtain⟨hr1,hr2⟩:=uh HRX _ bO
   have HALL:Hid (∀ wx,Below (w3.heap.size+1) ((w3.alloc (.cells #[.string wb,.int .i64 K,.bool hf,.bool hv,.bool sf,.bool sp,.func (Fn.func fid) #[] #[]] 202)).alloc (.cells #[.int .i64 K,.string ⟨#[]⟩,.string ⟨#[]⟩,.string ⟨#[]⟩] 95)) wx->(wx.cell? ⟨w3.heap.size,2,none⟩=some (.bool hf)/\wx.cell? ⟨w3.heap.size,3,none⟩=some (.bool hv))/\zfi wx w.heap.size op0/\Below w.heap.size w wx):=fun wx hx=>by
    have hzv:=uh HZV
    have hho:=uh HHO
    rw[hzv] at hho
    have hz1:=uh HZ3
    exact⟨uh HVC wx (hho.trans hx),(hx.block w.heap.size (by omega)).trans hr1,hr2.trans (hx.mono (by omega))⟩
   have hzO:((w3.alloc (.cells #[.string wb,.int .i64 K,.bool hf,.bool hv,.bool sf,.bool sp,.func (Fn.func fid) #[] #[]] 202)).alloc (.cells #[.int .i64 K,.string ⟨#[]⟩,.string ⟨#[]⟩,.string ⟨#[]⟩] 95)).heap.size=w3.heap.size+1+1:=by simp
   have HZO:=zab hzO
   clear bO hr1 hr2 hzO HBO HVC HHO HZV HRX
   generalize ((w3.alloc (.cells #[.string wb,.int .i64 K,.bool hf,.bool hv,.bool sf,.bool sp,.func (Fn.func fid) #[] #[]] 202)).alloc (.cells #[.int .i64 K,.string ⟨#[]⟩,.string ⟨#[]⟩,.string ⟨#[]⟩] 95))=wO at *
   have HDP:Hid (((zbm v zcp).isSome && (zar ((zbm v zcp).getD [])).isSome)=false->zaT v=false):=fun h=>by
    unfold zaT
    rw[Bool.and_eq_false_iff] at h
    rcases h with h | h <;> rw[h] <;> simp
   have HPT:Hid (((zbm v zcp).isSome && (zar ((zbm v zcp).getD [])).isSome)=true->(zbm v zcp).isSome=true/\(zar ((zbm v zcp).getD [])).isSome=true):=fun h=>by rwa [Bool.and_eq_true] at h
   obtain⟨pp,hpp⟩ : ∃ pp,zac ((zbm v zcp).getD [])=pp:=⟨_,rfl⟩
   obtain⟨op,hop⟩ : ∃ op,((zbm v zcp).isSome && (zar ((zbm v zcp).getD [])).isSome)=op:=⟨_,rfl⟩
   rw[hpp,hop] at HM5
   rw[hop] at HDP HPT
   have HPP:=zab hpp
   clear hpp hop
   refine (uh HM5).mono ?_
   rintro e w5 ⟨rfl,b5⟩
   have hzo:=uh HZO
   have o5:=(uh HKO).below b5
   have k5:=o5.c
   have f5:=o5.fz 1
   have HO6:=zab (o5.s1 pp)
   have b5m:Below (w3.heap.size+1) wO w5:=b5.mono (by omega)
   have HB6:=zab (b5m.setCell (p:=⟨w3.heap.size+1,1,none⟩) (ye _) (.string pp))
   clear HM5 HKO o5 b5 hzo b5m
   simp only at k5
   cases op with
   | false=>
    have HDF:=zab (uh HDP rfl)
    obtain⟨-,hrb,hbw⟩:=uh HALL _ (uh HB6)
    have r0:=hrb.c
    have rz:=hrb.fz
    have HRB:=zab hrb
    have HBW:=zab hbw
    clear hrb hbw
    go_wp2
    refine bodyPost_ret (zam rfl _ _ w.heap.size 95 #[_,_,_,_] (0,0) _ _ rfl rfl (zat (uh HRB) [_,_,_,_] rfl) underlying95 rfl (by kernel_rfl)) rfl ?_
    exact⟨zah (uh HBW) (ye _) [_,_,_,_] 0,op0,by rw[uh HDF]; rfl,fun h=>by rw[uh HDF] at h; cases h⟩
   | true=>
    obtain⟨hp1,hp2⟩:=uh HPT rfl
    have HP1:=zab hp1
    have HP2:=zab hp2
    obtain⟨⟨v2,v3⟩,_,hb6w⟩:=uh HALL _ (uh HB6)
    have HZK:=zab (show zer v≠0 by rw[uh HKD]; exact uh HKZ)
    have HMF:=zab (uh HPM zcG _ (by decide) hb6w)
    have HCH:=zab (zbE v htw zb3 (by decide) ty p _ S (uh HREP _ hb6w))
    have HPW:Hid (∀ wx,Below w.heap.size w wx->zjs wx.heap.size wx):=fun wx hx=>(hw.up hx).pow
    have HDE:Hid (zdU v=⟨K,pp,if hf then zac ((zbm v zcG).getD []) else ⟨#[]⟩,if hv then zac (((zal v zb3).map ct).getD []) else ⟨#[]⟩⟩):=by
     show _=_
     unfold zdU
     rw[uh HKD,uh HHF,uh HHV,uh HPP]
    have HDO:Hid (zaT v=((!hf || (zbm v zcG).isSome) && (!hv || (zal v zb3).isSome) && (!hf || (zar ((zbm v zcG).getD [])).isSome))):=by
     show _=_
     unfold zaT
     rw[yj (uh HZK),uh HP1,uh HP2,uh HKD,uh HHF,uh HHV]
     simp
    have HXV:Hid (hf=true->hv=false):=fun h=>by
     have e:=uh HHF
     rw[h] at e
     rw[← uh HHV]
     unfold zfN at e
     unfold zc9
     simp only[Bool.or_eq_true,yC] at e
     rcases e with e | e <;> rw[e] <;> rfl
    have HCU:Hid (∀ u,zal v zb3=some u->okV u/\twV u=false/\(ct u).length<=1000000):=fun u hu=>by
     obtain⟨a1,a2,a3,_⟩:=zbG hu hok htw
     exact⟨a1,a2,by omega⟩
    have hz6:=hb6w.size
    have HB6W:=zab hb6w
    clear hp1 hp2 hb6w hw htw hok hl
    generalize hw6:w5.setCell ⟨w3.heap.size+1,1,none⟩ (.string pp)=w6 at *
    have k6:=(uh HO6).c
    simp only at k6
    cases hf with
    | true=>
     obtain rfl:=uh HXV rfl
     obtain⟨ff,hff⟩ : ∃ ff,zac ((zbm v zcG).getD [])=ff:=⟨_,rfl⟩
     obtain⟨okf,hokf⟩ : ∃ okf,((zbm v zcG).isSome && (zar ((zbm v zcG).getD [])).isSome)=okf:=⟨_,rfl⟩
     have HD2:Hid (zaT v=okf):=by
      show _=_
      rw[uh HDO,← hokf]
      simp
     rw[hff,hokf] at HMF
     have HE2:Hid (zdU v=⟨K,pp,ff,⟨#[]⟩⟩):=by show _=_; rw[uh HDE,hff]; rfl
     clear hff hokf HDE HDO HXV HCH
     go_wp2_with fail
     refine (uh HMF).mono ?_
     rintro e w7 ⟨rfl,b7⟩
     have o7:=(uh HO6).below b7
     have k7:=o7.c
     have f7:=o7.fz 2
     simp only at k7
     have HO8:=zab (o7.s2 ff)
     have HB8:=zab ((zkY (by have:=uh HZO; omega) (uh HB6) b7).setCell (p:=⟨w3.heap.size+1,2,none⟩) (ye _) (.string ff))
     clear HMF b7 o7
     cases okf with
     | false=>
      have HDF:=zab (uh HD2)
      obtain⟨-,hrb,hbw⟩:=uh HALL _ (uh HB8)
      have r0:=hrb.c
      have rz:=hrb.fz
      have HRB:=zab hrb
      have HBW:=zab hbw
      clear hrb hbw
      go_wp2
      refine bodyPost_ret (zam rfl _ _ w.heap.size 95 #[_,_,_,_] (0,0) _ _ rfl rfl (zat (uh HRB) [_,_,_,_] rfl) underlying95 rfl (by kernel_rfl)) rfl ?_
      exact⟨zah (uh HBW) (ye _) [_,_,_,_] 0,op0,by rw[uh HDF]; rfl,fun h=>by rw[uh HDF] at h; cases h⟩
     | true=>
      obtain⟨⟨y2,y3⟩,_,_⟩:=uh HALL _ (uh HB8)
      obtain⟨-,hrb,hbw⟩:=uh HALL _ (uh HB8)
      have r0:=hrb.c
      have rz:=hrb.fz
      obtain⟨x0,x1,x2,x3⟩:=(uh HO8).c
      simp only at x0 x1 x2 x3
      have HRB:=zab hrb
      have HBW:=zab hbw
      have HDT:Hid (zaT v=true):=uh HD2
      have HEQ:Hid ((⟨K,pp,ff,⟨#[]⟩⟩ : POp)=zdU v):=(uh HE2).symm
      clear hrb hbw
      go_wp2
      refine bodyPost_ret (zam rfl _ _ w.heap.size 95 #[_,_,_,_] (0,0) _ _ rfl rfl (zat (uh HRB) [_,_,_,_] rfl) underlying95 rfl (by kernel_rfl)) rfl ?_
      exact⟨zah (uh HBW) (ye _) [_,_,_,_] 0,(⟨K,pp,ff,⟨#[]⟩⟩ : POp),by rw[uh HDT]; rfl,fun _=>uh HEQ⟩
    | false=>
     clear HMF HXV
     cases hv with
     | false=>
      clear HCH HCU
      obtain⟨-,hrb,hbw⟩:=uh HALL _ (uh HB6)
      have r0:=hrb.c
      have rz:=hrb.fz
      obtain⟨x0,x1,x2,x3⟩:=(uh HO6).c
      simp only at x0 x1 x2 x3
      have HRB:=zab hrb
      have HBW:=zab hbw
      have HDT:Hid (zaT v=true):=by show _=_; rw[uh HDO]; rfl
      have HEQ:Hid ((⟨K,pp,⟨#[]⟩,⟨#[]⟩⟩ : POp)=zdU v):=by show _=_; rw[uh HDE]; rfl
      clear hrb hbw
      go_wp2
      refine bodyPost_ret (zam rfl _ _ w.heap.size 95 #[_,_,_,_] (0,0) _ _ rfl rfl (zat (uh HRB) [_,_,_,_] rfl) underlying95 rfl (by kernel_rfl)) rfl ?_
      exact⟨zah (uh HBW) (ye _) [_,_,_,_] 0,(⟨K,pp,⟨#[]⟩,⟨#[]⟩⟩ : POp),by rw[uh HDT]; rfl,fun _=>uh HEQ⟩
     | true=>
      go_wp2_with fail
      refine (uh HCH).mono ?_
      rintro e w6' ⟨rfl,⟨x,rfl,hn⟩ | ⟨x,u,rfl,hu,hr⟩⟩
      ·have HDF:Hid (zaT v=false):=by show _=_; rw[uh HDO,hn]; rfl
       clear HCH HCU hn HDE HDO
       obtain⟨-,hrb,hbw⟩:=uh HALL _ (uh HB6)
       have r0:=hrb.c
       have rz:=hrb.fz
       have HRB:=zab hrb
       have HBW:=zab hbw
       clear hrb hbw
       go_wp2
       refine bodyPost_ret (zam rfl _ _ w.heap.size 95 #[_,_,_,_] (0,0) _ _ rfl rfl (zat (uh HRB) [_,_,_,_] rfl) underlying95 rfl (by kernel_rfl)) rfl ?_
       exact⟨zah (uh HBW) (ye _) [_,_,_,_] 0,op0,by rw[uh HDF]; rfl,fun h=>by rw[uh HDF] at h; cases h⟩
      ·obtain⟨u1,u2,u3⟩:=uh HCU u hu
       obtain⟨ty3,q3,rfl⟩:=za8 hr
       have HCT:=zab (zcj u u1 u2 ty3 q3 w6 S hr (fun k hk=>yE (uh HSL k hk) hz6) (uh HPW w6 (uh HB6W)) (by omega))
       have HD2:Hid (zaT v=true):=by show _=_; rw[uh HDO,hu]; rfl
       have HE2:Hid (zdU v=⟨K,pp,⟨#[]⟩,zac (ct u)⟩):=by show _=_; rw[uh HDE,hu]; rfl
       clear HCH HCU hu hr HDE HDO u1 u2 u3
       generalize zac (ct u)=vv at *
       go_wp2_with fail
       refine (uh HCT).mono ?_
       rintro e w7 ⟨rfl,b7⟩
       have o7:=(uh HO6).below b7
       have k7:=o7.c
       have f7:=o7.fz 3
       simp only at k7
       have HO8:=zab (o7.s3 vv)
       have HB8:=zab ((zkY (by have:=uh HZO; omega) (uh HB6) b7).setCell (p:=⟨w3.heap.size+1,3,none⟩) (ye _) (.string vv))
       clear HCT b7 o7
       obtain⟨-,hrb,hbw⟩:=uh HALL _ (uh HB8)
       have r0:=hrb.c
       have rz:=hrb.fz
       obtain⟨x0,x1,x2,x3⟩:=(uh HO8).c
       simp only at x0 x1 x2 x3
       have HRB:=zab hrb
       have HBW:=zab hbw
       have HDT:Hid (zaT v=true):=uh HD2
       have HEQ:Hid ((⟨K,pp,⟨#[]⟩,vv⟩ : POp)=zdU v):=(uh HE2).symm
       clear hrb hbw
       go_wp2
       refine bodyPost_ret (zam rfl _ _ w.heap.size 95 #[_,_,_,_] (0,0) _ _ rfl rfl (zat (uh HRB) [_,_,_,_] rfl) underlying95 rfl (by kernel_rfl)) rfl ?_
       exact⟨zah (uh HBW) (ye _) [_,_,_,_] 0,(⟨K,pp,⟨#[]⟩,vv⟩ : POp),by rw[uh HDT]; rfl,fun _=>uh HEQ⟩
theorem zhz (s:ByteArray) (w:World) (hw:RdW w) (hs:s.size<=1048576) :
  Calls prog 56 #[.string s] w fun e w'=>∃ v,e = .returned (.tuple #[v,.int .i64 (dcR s).2.1,.int .i64 (dcR s).2.2])/\OPr w' w.heap.size v (dcR s).1/\Below w.heap.size w w':=by
 obtain⟨i0,hi,hz0,hz1,hz2⟩:=info_parts zqn
 have H1:=zab (zfm s w hw.tab hw.err hw.pow (by omega))
 have HNIL:Hid (∀ wx:World,OPr wx w.heap.size (.slice none 0 0) []):=fun wx=>World.ownsRow_nil wx w.heap.size 95 4
 have HW:=zab hw
 clear hw hs
 cases hr:zaZ s with
 | inl c=>
  have hc:=zfG hr
  have HR:Hid (dcR s=([],1,0)):=by show _=_; unfold dcR; rw[hr]
  rw[hr] at H1
  have t2:((c:Int) != 0)=true:=by simp; omega
  have t3:¬ (c:Int)=0:=by omega
  have t4:¬ c=0:=by omega
  clear hr hc
  go_enter func56,ntmps56
  go_wp2_with fail
  refine (uh H1).mono ?_
  rintro e w2 ⟨b2,rfl⟩
  have HB2:=zab b2
  clear b2 H1
  go_wp2
  go_ret3
  exact⟨_,by rw[uh HR]; rfl,by rw[uh HR]; exact uh HNIL _,uh HB2⟩
 | inr a=>
  have hgd:=GdV.of hr
  rw[hr] at H1
  by_cases h5:kd a=5
  ·obtain⟨l,rfl⟩ : ∃ l,a = .arr l:=by cases a <;> first | exact⟨_,rfl⟩ | (simp[kd] at h5)
   have HR0:Hid (100 < l.toL.length->dcR s=([],3,100)):=fun h=>by unfold dcR; rw[hr]; simp only; rw[yg h]
   have HR1:Hid (¬ 100 < l.toL.length->∀ i (hi:i < l.toL.length),zaT l.toL[i]=false->(∀ j (h:j < l.toL.length),j < i->zaT l.toL[j]=true)->dcR s=([],4,(i:Int))):=fun h i hi hb hg=>by
    have hf:l.toL.findIdx? (fun v=>!zaT v)=some i:=by
     rw[List.findIdx?_eq_some_iff_getElem]
     exact⟨hi,by simp[hb],fun j hj=>by simp[hg j (by omega) hj]⟩
    unfold dcR; rw[hr]; simp only; rw[yf h,hf]
   have HR2:Hid (¬ 100 < l.toL.length->(∀ j (h:j < l.toL.length),zaT l.toL[j]=true)->dcR s=(l.toL.map zdU,0,0)):=fun h hg=>by
    have hf:l.toL.findIdx? (fun v=>!zaT v)=none:=by
     rw[List.findIdx?_eq_none_iff]
     intro x hx
     obtain⟨j,hj,rfl⟩:=List.mem_iff_getElem.1 hx
     simp[hg j hj]
    unfold dcR; rw[hr]; simp only; rw[yf h,hf]
   have HGD:=zab hgd
   clear hr hgd h5
   go_enter func56,ntmps56
   go_wp2_with fail
   refine (uh H1).mono ?_
   rintro e w2 ⟨b2,ty,q,rfl,rep⟩
   have rep':=rep
   rw[Rep] at rep'
   obtain⟨ab,sv,xs,e1,s1,g1,r1,rl1⟩:=rep'
   injection e1 with e0 e1
   subst e0; subst e1
   obtain⟨x1,gr1,c1,rfl,hadr1,hcell1⟩:=zbD r1
   obtain⟨n1,rep1⟩:=zbJ l xs rl1
   have HIT:=zab (zmy ab _ w2 g1)
   have HB2:=zab b2
   have hz2w:=b2.size
   have HD:Hid (∀ k (hk:k < xs.length) (hk':k < l.toL.length),∃ t q,x1=some ⟨gr1,0,none⟩/\(∀ wx,Below w2.heap.size w2 wx->wx.cell? ⟨gr1,k,none⟩=some (.iface t q)/\Calls prog 103 #[.iface t q] wx (DcP l.toL[k] wx))):=fun k hk hk'=>by
    obtain⟨t,q,he⟩:=za8 (rep1 k hk hk')
    have hu:=(uh HGD).item (yr hk')
    obtain⟨ha,hag⟩:=hadr1 (by omega)
    refine⟨t,q,ha,fun wx hx=>⟨?_,?_⟩⟩
    ·rw[← he]; exact (hx.cell (p:=⟨gr1,k,none⟩) hag.2).trans (hcell1 k hk)
    ·have hrk:=rep1 k hk hk'
     rw[he] at hrk
     exact zjH _ hu.ok hu.tw (by have:=hu.len; omega) t q wx _ (Rep.keep (fun j hj=>hx.block j hj.2) (fun _ h=>h) _ _ hrk) (fun j hj=>yE hj.2 hx.size) ((uh HW).up (zaa (uh HB2) hx))
   clear H1 rep s1 g1 r1 rl1 hadr1 hcell1 rep1 b2
   generalize l.toL=us at *
   generalize xs.length=n at *
   subst n1
   go_wp2_with fail
   refine (uh HIT).mono ?_
   rintro e w2' ⟨rfl,rfl⟩
   clear HIT
   by_cases h100:100 < us.length
   ·have t1:(100:Int) < (us.length:Int):=by omega
    have HR:=zab (uh HR0 (by omega))
    clear HR0 HR1 HR2 h100
    go_wp2
    go_ret3
    exact⟨_,by rw[uh HR]; rfl,by rw[uh HR]; exact uh HNIL _,uh HB2⟩
   ·have t1:¬ (100:Int) < (us.length:Int):=by omega
    have hx100:us.length<=100:=by omega
    clear HR0 h100
    go_wp2_with (at_make; refine wpList_make_own _ rfl _ _ 26 rfl w2.heap.size 95 i0 (.agg #[.int .i64 0,.string ByteArray.empty,.string ByteArray.empty,.string ByteArray.empty]) 4 underlying26 hi hz0 hz1 .i64 .i64 _ us.length rfl rfl rfl (by rw[hz2]; omega) (by unfold maxLen; omega) (ye _) ?_)
    intro w3 hown3 hgrow3
    have HB3:Hid (Below w2.heap.size w2 w3):=(yH _ _).grown hgrow3 (ye _) (by intro k hk; cases hk)
    have HO3:Hid (OPr w3 w2.heap.size _ []):=hown3
    clear hown3 hgrow3
    go_wp2
    go_loopw [9,36] (fun lv i wr=>∃ k:Nat,k<=us.length/\i = .int .i64 k/\OPr wr w2.heap.size lv ((us.take k).map zdU)/\Below w2.heap.size w2 wr/\∀ j (h:j < us.length),j < k->zaT us[j]=true) (fun _ i _=>us.length - (intOf i).toNat)
    case atStart=>exact⟨0,yt _,rfl,uh HO3,uh HB3,fun j _ h=>by omega⟩
    case round=>
     obtain⟨k,hk,rfl,ho,hb,hall⟩:=hrel
     have HO:=zab ho
     have HBR:=zab hb
     have HALL:=zab hall
     have hbz:=hb.size
     clear HO3 HB3
     by_cases hlt:k < us.length
     ·have hltI:(k:Int) < (us.length:Int):=by omega
      have hltu:k < us.length:=by omega
      obtain⟨t,q,rfl,hdx⟩:=uh HD k hlt hltu
      obtain⟨hc,hd⟩:=hdx wr hb
      have HDD:=zab hd
      have HST:Hid ((us.take (k+1)).map zdU=(us.take k).map zdU++[zdU us[k]]):=by
       show _=_
       rw[yy hltu,yw]; rfl
      have hal:((us.take k).map zdU).length<=100:=by rw[yl,ym]; omega
      clear ho hb hall hdx hd
      go_wp2_with fail
      refine (uh HDD).mono ?_
      rintro e w5 ⟨b5,mo,rfl,hmo⟩
      have b35:=zaa (uh HBR) b5
      cases hok:zaT us[k] with
      | false=>
       have HR:=zab (uh HR1 (by omega) k hltu hok (uh HALL))
       have hN:=zag w5 (.cells (zf4 mo) 95)
       have HB6:=zab (zaa (uh HB2) (zaa b35 hN))
       clear HDD b5 b35 hmo hok hN hc
       go_wp2
       go_ret3
       exact⟨_,by rw[uh HR]; rfl,by rw[uh HR]; exact uh HNIL _,uh HB6⟩
      | true=>
       obtain rfl:=hmo hok
       have HALL2:Hid (∀ j (h:j < us.length),j < k+1->zaT us[j]=true):=fun j h hj=>by
        by_cases e:j=k
        ·subst e; exact hok
        ·exact uh HALL j h (by omega)
       generalize zdU us[k]=mo at *
       generalize (us.take k).map zdU=A at *
       have hN:=zag w5 (.cells (zf4 mo) 95)
       have hM:=zag (w5.alloc (.cells (zf4 mo) 95)) (.cells (zf4 mo) 95)
       have zN:(w5.alloc (.cells (zf4 mo) 95)).heap.size=w5.heap.size+1:=by simp
       have lM:=zyy (w5.alloc (.cells (zf4 mo) 95)) mo
       rw[zN] at lM
       have bN:=zaa b5 (zaa hN hM)
       have HOM:Hid (OPr _ w2.heap.size u9 A):=zaj (uh HO) bN
       have HBM:=zab (zaa (uh HBR) bN)
       have HLM:=zab lM
       clear HDD b5 b35 hmo hok hN hM zN lM bN hc
       go_wp2_with (at_builtin; refine wpList_append_own _ rfl (.tmp 49) (.tmp 51) 26 rfl w2.heap.size 95 i0 (.agg #[.int .i64 0,.string ByteArray.empty,.string ByteArray.empty,.string ByteArray.empty]) 4 56 underlying26 hi hz0 hz1 hz2 rfl (by decide) _ _ _ rfl (uh HOM) ⟨w5.heap.size+1,0,none⟩ 1 1 (opV mo) rfl rfl (uh HLM) (zyz mo) (by unfold maxLen; omega) (by omega) (uh HBM).size ?_)
       generalize ((w5.alloc (.cells (zf4 mo) 95)).alloc (.cells (zf4 mo) 95))=wM at *
       intro l6 w6 o6 g6 gx6
       clear gx6
       have HO6:Hid (OPr w6 w2.heap.size l6 (A++[mo])):=OPr.step o6
       have HB6:=zab ((uh HBM).grown g6 (uh HBM).size (fun b hb=>((uh HOM).lt b hb).1))
       clear o6 g6 HOM HBM HLM
       go_wp2
       go_roundw
       case rel=>exact⟨k+1,by omega,by go_num,by rw[uh HST]; exact uh HO6,uh HB6,uh HALL2⟩
       case measure=>simp[intOf]; omega
     ·have hkn:k=us.length:=by omega
      subst hkn
      rw[List.take_length] at HO
      have HR:=zab (uh HR2 (by omega) (fun j h=>hall j h h))
      have HO6:Hid (OPr wr w.heap.size u9 (us.map zdU)):=zaC (uh HO) hz2w
      have HB6:=zab (zaa (uh HB2) (uh HBR))
      clear ho hb hall
      go_wp2
      go_ret3
      exact⟨_,by rw[uh HR]; rfl,by rw[uh HR]; exact uh HO6,uh HB6⟩
  ·have HR:Hid (dcR s=([],2,0)):=by show _=_; unfold dcR; rw[hr]; cases a <;> first | rfl | exact absurd rfl h5
   clear hr hgd
   go_enter func56,ntmps56
   go_wp2_with fail
   refine (uh H1).mono ?_
   rintro e w2 ⟨b2,ty,q,rfl,rep⟩
   have HIT:=zab (zoW a ty q w2 _ rep h5)
   have HB2:=zab b2
   clear b2 H1 rep h5
   go_wp2_with fail
   refine (uh HIT).mono ?_
   rintro e w2' ⟨rfl,rfl⟩
   clear HIT
   go_wp2
   go_ret3
   exact⟨_,by rw[uh HR]; rfl,by rw[uh HR]; exact uh HNIL _,uh HB2⟩
theorem zga (v v':Value) (b t:Int) (d:ByteArray) (ms:List POp) (bl bl':List Nat) (w:World) (h:zbt opE w v ms bl) (h':zbt opE w v' ms bl') :
  Calls prog 9 #[.agg #[v,.int .i64 b,.string d,.int .i64 t],.agg #[v',.int .i64 b,.string d,.int .i64 t]] w fun e w'=>e = .returned (.bool true)/\Below w.heap.size w w':=by
 obtain⟨a,c,rfl,-,-⟩:=h.form
 obtain⟨a',c',rfl,-,-⟩:=h'.form
 have H:=zab h
 have H':=zab h'
 clear h h'
 go_enter func9,ntmps9
 go_wp2_with fail
 have hA:=zsd w (.cells #[.slice a ms.length c,.int .i64 b,.string d,.int .i64 t] 28) (.cells #[.slice a' ms.length c',.int .i64 b,.string d,.int .i64 t] 28)
 generalize (w.alloc _).alloc _=wA at *
 refine (zpg _ _ ms bl bl' wA ((uh H).below hA.bel) ((uh H').below hA.bel)).mono ?_
 rintro e w1 ⟨rfl,b1⟩
 have hz:=hA.size
 obtain⟨c0,c1,c2,c3⟩:=Cl4.of ((b1.block w.heap.size (by omega)).trans hA.k0)
 obtain⟨d0,d1,d2,d3⟩:=Cl4.of ((b1.block (w.heap.size+1) (by omega)).trans hA.k1)
 have HB:=zab (zaa hA.bel b1)
 clear hA b1 H H'
 go_wp2
 go_ret
 exact⟨rfl,uh HB⟩
theorem zgb (a b c d:Int) (w:World) :
  Calls prog 10 #[.agg #[.int .i64 a,.int .i64 b,.int .i64 c,.int .i64 d],.agg #[.int .i64 a,.int .i64 b,.int .i64 c,.int .i64 d]] w fun e w'=>e = .returned (.bool true)/\Below w.heap.size w w':=by
 have hA:=zsd w (.cells #[.int .i64 a,.int .i64 b,.int .i64 c,.int .i64 d] 30) (.cells #[.int .i64 a,.int .i64 b,.int .i64 c,.int .i64 d] 30)
 have HB:=zab hA.bel
 clear hA
 go_enter func10,ntmps10
 go_wp2
 go_ret
 exact⟨rfl,uh HB⟩
theorem zkZ (v:Value) (b t:Int) (d:ByteArray) (ms:List POp) (bl:List Nat) (k0:Nat) (w:World) (hv:zbt opE w v ms bl) (hd:bl.Nodup) (hn:ms.length<=268435456) (h2:k0+zdj zbn ms<=1099200000000) :
  Calls prog 13 #[.agg #[v,.int .i64 b,.string d,.int .i64 t],.int .i64 k0] w fun e w'=>e = .returned (.int .i64 (k0+zdj zbn ms:Nat))/\zbt opE w' v (zbR zn2 zbn k0 ms) bl/\Fr bl w w':=by
 obtain⟨a,c,rfl,-,-⟩:=hv.form
 have hA:=zag w (.cells #[.slice a ms.length c,.int .i64 b,.string d,.int .i64 t] 28)
 have HM:=zab (zlc _ ms bl k0 _ (hv.below hA) hd hn h2)
 have HL:=zab hv.lt
 have HA:=zab hA
 clear hv hA
 generalize (k0+zdj zbn ms:Nat)=K at *
 go_enter func13,ntmps13
 go_wp2_with fail
 refine (uh HM).mono ?_
 rintro e w1 ⟨rfl,o1,f1⟩
 have HO:=zab o1
 have HF:=zab f1
 clear HM o1 f1
 go_wp2
 go_ret
 exact⟨rfl,uh HO,(Fr.of_below (uh HA)).trans (uh HF)⟩
theorem zgo (v:Value) (b t:Int) (d:ByteArray) (ms:List POp) (bl:List Nat) (k0:Nat) (w:World) (hv:zbt opE w v (zbR zn2 zbn k0 ms) bl) (hn:ms.length<=268435456) (h2:k0+zdj zbn ms<=1099200000000) :
  Calls prog 14 #[.agg #[v,.int .i64 b,.string d,.int .i64 t],.int .i64 k0] w fun e w'=>e = .returned (.int .i64 (k0+zdj zbn ms:Nat))/\Below w.heap.size w w':=by
 obtain⟨a,c,rfl,-,-⟩:=hv.form
 have hA:=zag w (.cells #[.slice a (zbR zn2 zbn k0 ms).length c,.int .i64 b,.string d,.int .i64 t] 28)
 have HM:=zab (zld _ ms bl k0 _ (hv.below hA) hn h2)
 have HA:=zab hA
 clear hv hA
 generalize (zbR zn2 zbn k0 ms).length=n at *
 generalize (k0+zdj zbn ms:Nat)=K at *
 go_enter func14,ntmps14
 go_wp2_with fail
 refine (uh HM).mono ?_
 rintro e w1 ⟨rfl,b1⟩
 have HB:=zab (zaa (uh HA) b1)
 clear HM b1
 go_wp2
 go_ret
 exact⟨rfl,uh HB⟩
end Go.Proofs.YtekpghcckdjnhaaGreatDoor
