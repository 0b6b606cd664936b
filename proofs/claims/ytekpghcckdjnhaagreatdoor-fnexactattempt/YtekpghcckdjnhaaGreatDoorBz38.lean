import Derived.Test.YtekpghcckdjnhaaGreatDoorBz37
set_option maxRecDepth 100000
set_option maxHeartbeats 8000000
namespace Go.Proofs.YtekpghcckdjnhaaGreatDoor
open Go.RowKit Go.Proofs.Tryz
def VB(g:Nat)(m:zl)(q:Value)(w:Wo):Prop:=w.heap[g]?=some (.cells #[.int .i64 m.no,.string m.doc,q] 57 (0,0))
theorem VB.next{g:Nat}{m:zl}{q:Value}{w w':Wo}(h:VB g m q w)(hb:Bw w w'):VB g m q w':=(hb.block g (yB.1 h).1).trans h
theorem zdk(s o:Value)(vs:List zl)(p:ZP)(bl cl:List Nat)(w:Wo)(h:zk zT w s vs bl)(ho:zk Zh w o p.ops cl)(hs:ZG vs<=1048576)(hz:Z4 p.ops<=1048576)(hd:p.doc.size<=1048576):
  Calls prog 16 #[.agg #[s],.agg #[o,.int .i64 p.base,.string p.doc,.int .i64 p.tries]] w (Uy (Ju vs p) w):=by
 obtain⟨xa,xc,rfl,-,-⟩:=h.form;obtain⟨oa,oc,rfl,-,-⟩:=ho.form;have hA:=AW.new w (.slice xa vs.length xc) (.slice oa p.ops.length oc) p;have HS:=zb (EQ _ vs bl _ (h.below hA.2) hs);have HH:=zb h;have HO:=zb ho;have HSZ:=zb hs;have HZ:=zb hz;have HD:=zb hd;clear h ho hs hz hd;go_in;go_wp2_with fail;generalize ((((w.alloc _).alloc _).alloc _).alloc _).alloc _=wA at *;obtain⟨hA1,hA2⟩:=hA;refine (uh HS).mono ?_;rintro e w1 ⟨rfl,b1⟩;have HA1:=zb (hA1.next b1);have HB1:=zb (zh hA2 b1);clear HS b1 hA1 hA2
 cases hok:q9 vs with
 | false=>
  have HX:=zb (MS (p:=p) hok);obtain⟨c2,⟨p0,p1,p2,p3⟩,⟨v0,v1,v2,v3⟩,f2,f3,f4⟩:=(uh HA1).ac;clear hok;go_wp2;refine bodyPost_ret (Vk rfl (uh HA1) rfl rfl rfl rfl) rfl ?_;rw[uh HX];exact Vl (a:=YA) (uh HB1) (Nat.lt_succ_self _) (zk.nil _ _) (Zj.nil _) (Yz _ _)
 | true=>
  obtain⟨k,X,r,hl,h8,hrv⟩:=MG hok;have hX:=MT (p:=p) hok hrv;obtain⟨z,hp,hnos,hn0,hn1⟩:=M2 hok;have hsv:=uh HSZ;have hin:=K6 (uh HZ);have HPO:Hid (Calls _ _ _ w1 _):=zde _ _ vs p bl cl k w1 ((uh HH).below (uh HB1)) X hl h8 ((uh HO).below (uh HB1)) hin (uh HD);have HHD:=zb (Py _ vs bl k w (uh HH) X hl h8);have HDZ:Hid (vs[k].doc.size<=1048576):=(Xu hsv k X).1;have HCP:Hid (∀ wx,Bw w wx->Calls prog 36 #[.agg #[.slice xa vs.length xc],.int .i64 0] wx fun e w'=>∃ p' bl',e= .returned (.agg #[p'])/\zk zT w' p' vs bl'/\Zj wx.heap.size bl'/\Bw wx w'):=fun wx hx=>MV _ vs 0 bl wx ((uh HH).below hx) ⟨by omega,fun m hm=>by have:=(Ux hsv hm).1;omega⟩ (yt _);have HTC:Hid (∀ wx,Bw w wx->Calls prog 37 #[.slice oa p.ops.length oc] wx fun e w'=>∃ r,e= .returned r/\OT w' wx.heap.size r (ZF p.ops)/\Bw wx w'):=fun wx hx=>zc3 _ p.ops cl wx ((uh HO).below hx) (uh HZ);have HME:Hid (0<=p.base->p.base<=vs[k].no->∀ wx,Bw w wx->Calls prog 38 #[.agg #[.slice xa vs.length xc],.slice oa p.ops.length oc,.int .i64 p.base] wx (Rb (.bool (meets vs (Zk p.ops) p.base)) wx)):=fun hb0 hbk wx hx=>zdj _ _ vs p.ops p.base bl cl k wx ((uh HH).below hx) X hl h8 ((uh HO).below hx) z hnos hn0 hn1 hb0 hbk
   (fun wy hy=>uh HTC wy (zh hx hy)) (fun wy xa ya xb xo xc yb yo yc b hy h1 h2 hm=>Ad _ _ _ _ _ _ _ _ _ b wy h1 h2 (Pz hin) (by obtain⟨m,hm,rfl⟩:=hm;exact Ux hsv hm))
  have HAP:Hid (∀ wx,Bw w wx->Calls prog 24 #[.string vs[k].doc,.slice oa p.ops.length oc] wx (Rb (.tuple #[.string (qk vs[k].doc p.ops).1,.int .i64 (qk vs[k].doc p.ops).2.1,.int .i64 (qk vs[k].doc p.ops).2.2]) wx)):=fun wx hx=>Hf vs[k].doc _ p.ops cl wx ((uh HO).below hx) hin (uh HDZ);have HK8:Hid (vs.length<=8):=h8;have HNK:Hid (0<=vs[k].no/\vs[k].no<=2000000):=by have:=hnos k X;exact⟨by omega,by omega⟩
  have HVZ:Hid (∀ m∈vs,m.touched.length<=1048576):=fun m hm=>(Ux hsv hm).1;generalize vs[k]=m at *;have HX:=zb hX;clear hX hok hl hrv hsv hin X hp hnos hn0 hn1 h8;obtain⟨x0,⟨q0,q1,q2,q3⟩⟩:w1.cell? ⟨w.heap.size,0,none⟩=some (.slice xa vs.length xc)/\Zt (w.heap.size+1) (.slice oa p.ops.length oc) (.int .i64 p.base) (.string p.doc) (.int .i64 p.tries) w1:=⟨yF (uh HA1).k0 0,Zt.of (uh HA1).k1⟩;go_wp2_with fail;refine (uh HPO).mono ?_;rintro e w2 ⟨rfl,b2⟩;have HA2:=zb ((uh HA1).next b2);have HB2:=zb (zh (uh HB1) b2);clear HPO b2 x0 q0 q1 q2 q3 HA1 HB1
  cases hpk:Q1 m.no p with
  | false=>
   have HY:Hid (Ju vs p=YA):=by show _=_;rw[uh HX,hpk];rfl
   obtain⟨c2,⟨p0,p1,p2,p3⟩,⟨v0,v1,v2,v3⟩,f2,f3,f4⟩:=(uh HA2).ac;clear hpk;go_wp2;refine bodyPost_ret (Vk rfl (uh HA2) rfl rfl rfl rfl) rfl ?_;rw[uh HY];exact Vl (a:=YA) (uh HB2) (Nat.lt_succ_self _) (zk.nil _ _) (Zj.nil _) (Yz _ _)
  | true=>
   have HY:Hid (Ju vs p=qA vs m p):=by show _=_;rw[uh HX,hpk];rfl
   have HPK:Hid (0<=p.base/\p.base<=m.no/\0<=p.tries/\p.tries<=4):=by
    simp only[Q1,Bool.and_eq_true,decide_eq_true_eq]at hpk;exact⟨hpk.1.1.1.1.2,hpk.1.1.1.2,hpk.1.2,hpk.2⟩
   obtain⟨ta,tc,hhd⟩:=uh HHD;have HH2:=zb (hhd w2 (uh HB2));have x0:w2.cell? ⟨w.heap.size,0,none⟩=some (.slice xa vs.length xc):=yF (uh HA2).k0 0;clear hpk HX HHD hhd;go_wp2_with fail;refine (uh HH2).mono ?_;rintro e w3 ⟨rfl,b3⟩;have R:=zu w3 (.cells #[.int .i64 m.no,.string m.doc,.slice ta m.touched.length tc] 57);have HV4:Hid (VB w3.heap.size m (.slice ta m.touched.length tc) _):=yG w3 (.cells #[.int .i64 m.no,.string m.doc,.slice ta m.touched.length tc] 57);have HA4:=zb ((uh HA2).next (zh b3 R));have HB4:=zb (zh (uh HB2) (zh b3 R));have hgV:w.heap.size+1+1+1+1<w3.heap.size:=((uh HA2).next b3).lt;have J:=zb hgV;clear HH2 b3 R x0 HA2 HB2 hgV;have x0:(w3.alloc (.cells #[.int .i64 m.no,.string m.doc,.slice ta m.touched.length tc] 57)).cell? ⟨w.heap.size,0,none⟩=some (.slice xa vs.length xc):=yF (uh HA4).k0 0;have q1:(w3.alloc (.cells #[.int .i64 m.no,.string m.doc,.slice ta m.touched.length tc] 57)).cell? ⟨w.heap.size+1,1,none⟩=some (.int .i64 p.base):=yF (uh HA4).k1 1;have HC4:=zb (uh HCP _ (uh HB4));by_cases hbn:p.base=m.no
   ·have tq:(p.base ==m.no)=true:=by simp[hbn]
    have F:=zb (zcz (vs:=vs) hbn);rw[← uh HY]at F;clear hbn HME HAP HCP HY;go_wp2_with fail;generalize w3.alloc _=w4 at *;generalize w3.heap.size=q at *;refine (uh HC4).mono ?_;rintro e w5 ⟨p5,bl5,rfl,o5,f5,b5⟩;obtain⟨pa,pc,rfl,-,-⟩:=o5.form;have R:=zu w5 (.cells #[.slice pa vs.length pc] 35);have kU:=yG w5 (.cells #[.slice pa vs.length pc] 35);have zU:(w5.alloc (.cells #[.slice pa vs.length pc] 35)).heap.size=w5.heap.size+1:=by simp
    have Q:=zh b5 R;have D:=zb ((uh HA4).next Q);have T:=zb (zh (uh HB4) Q);have HV6:=zb ((uh HV4).next Q);have P:=zb (o5.below R);have V:=zb f5;have W:=zb kU;have HZU:=zb zU;have h45:=b5.size;have l:Hid (q<w4.heap.size/\w4.heap.size<=w5.heap.size):=⟨(yB.1 (uh HV4)).1,h45⟩;clear HC4 o5 f5 b5 R kU zU Q HA4 HB4 HV4 x0 q1 tq h45;go_wp2_with fail;generalize w5.alloc _=w6 at *;generalize w5.heap.size=f at *;have B:Bw w6 w6.drew:=(yH _ _).drew;have HT6:=zb (uh HTC _ (zh (uh T) B));have U:Hid (∀ wx,Bw w6 wx->wx.cell? ⟨f,0,none⟩=some (.slice pa vs.length pc)/\wx.cell? ⟨q,0,none⟩=some (.int .i64 m.no)/\wx.cell? ⟨w.heap.size+1,2,none⟩=some (.string p.doc)/\wx.cell? ⟨w.heap.size+1,0,none⟩=some (.slice oa p.ops.length oc)):=fun wx hx=>
     ⟨yF ((hx.block f (yB.1 (uh W)).1).trans (uh W)) 0,yF ((uh HV6).next hx) 0,yF ((uh D).next hx).k1 2,yF ((uh D).next hx).k1 0⟩
    obtain⟨e0,e1,e2,e3⟩:=uh U _ (yH _ _);obtain⟨g0,g1,g2,g3⟩:=uh U _ B;have hwr:IntKind.i64.wrap (m.no+1)=m.no+1:=by have:=uh HNK;rw[IntKind.wrap_i64];omega
    have hl8:=uh HK8;have HDR:=zb B;have S6:=zb (uh U _ B).2;have nu1:¬ f=q:=by have:=uh l;omega
    have nu2:¬ q=f:=by have:=uh l;omega
    have nu3:¬ f=w.heap.size+1:=by have:=uh l;have:=uh J;omega
    have nu4:¬ w.heap.size+1=f:=by have:=uh l;have:=uh J;omega
    clear B HTC g1 g2 g3;refine wp_region_held_drew (S:=fun w'=>w'.cell? ⟨q,0,none⟩=some (.int .i64 m.no)/\w'.cell? ⟨w.heap.size+1,2,none⟩=some (.string p.doc)/\w'.cell? ⟨w.heap.size+1,0,none⟩=some (.slice oa p.ops.length oc)) (by kernel_rfl) ⟨e1,e2,e3⟩ (fun hHeld=>?_);refine wpAnyH_take (i:=0) (v:=?_) rfl (by kernel_rfl) (by kernel_rfl) (by kernel_rfl) (fun _ _ _ h=>h) (Or.inl ⟨by rfl,?_⟩) (by assumption) ?_;rotate_left 1
    ·(intro wy j;obtain⟨y0,y1,y2⟩:=j;go_simp;try with_reducible rfl)
    try simp only[Act.put]
    refine wpAnyH_take (i:=2) (v:=?_) rfl (by kernel_rfl) (by kernel_rfl) (by kernel_rfl) (fun _ _ _ h=>h) (Or.inl ⟨by rfl,?_⟩) (by assumption) ?_;rotate_left 1
    ·(intro wy j;obtain⟨y0,y1,y2⟩:=j;go_simp;try with_reducible rfl)
    try simp only[Act.put]
    refine wpAnyH_take (i:=3) (v:=?_) rfl (by kernel_rfl) (by kernel_rfl) (by kernel_rfl) (fun _ _ _ h=>h) (Or.inl ⟨by rfl,?_⟩) (by assumption) ?_;rotate_left 1
    ·(intro wy j;obtain⟨y0,y1,y2⟩:=j;go_simp;try with_reducible rfl)
    try simp only[Act.put]
    refine wpAnyH_take (i:=4) (v:=?_) rfl (by kernel_rfl) (by kernel_rfl) (by kernel_rfl) (fun _ _ _ h=>h) (Or.inl ⟨by rfl,?_⟩) (by assumption) ?_;rotate_left 1
    ·(intro wy j;obtain⟨y0,y1,y2⟩:=j;go_simp;try with_reducible rfl)
    try simp only[Act.put]
    refine wpAnyH_take (i:=5) (v:=?_) rfl (by kernel_rfl) (by kernel_rfl) (by kernel_rfl) (fun _ _ _ h=>h) (Or.inl ⟨by rfl,?_⟩) (by assumption) ?_;rotate_left 1
    ·(intro wy j;obtain⟨y0,y1,y2⟩:=j;go_simp;try with_reducible rfl)
    try simp only[Act.put]
    refine wpAnyH_take (i:=6) (v:=?_) rfl (by kernel_rfl) (by kernel_rfl) (by kernel_rfl) (fun _ _ _ h=>h) (Or.inl ⟨by rfl,?_⟩) (by assumption) ?_;rotate_left 1
    ·(intro wy j;obtain⟨y0,y1,y2⟩:=j;go_simp;try with_reducible rfl)
    try simp only[Act.put]
    refine wpAnyH_take (i:=7) (v:=?_) rfl (by kernel_rfl) (by kernel_rfl) (by kernel_rfl) (fun _ _ _ h=>h) (Or.inl ⟨by rfl,?_⟩) (by assumption) ?_;rotate_left 1
    ·(intro wy j;obtain⟨y0,y1,y2⟩:=j;go_simp;try with_reducible rfl)
    try simp only[Act.put]
    refine wpAnyH_take (i:=8) (v:=?_) rfl (by kernel_rfl) (by kernel_rfl) (by kernel_rfl) (fun _ _ _ h=>h) (Or.inl ⟨by rfl,?_⟩) (by assumption) ?_;rotate_left 1
    ·(intro wy j;obtain⟨y0,y1,y2⟩:=j;go_simp;try with_reducible rfl)
    try simp only[Act.put]
    refine wpAnyH_ready (rs:=[1,9]) (by kernel_rfl) (by simp) ?_;refine AllReadyH.cons rfl (fun K y=>?_) (AllReadyH.cons rfl (fun K y=>?_) AllReadyH.nil);go_simp;refine y.out _ _ (uh S6) (fun hHeld=>?_);clear y K;try simp only[Act.put]
    refine wpAnyH_ready (rs:=[9]) (by kernel_rfl) (by simp) ?_;refine AllReadyH.cons rfl (fun K y=>?_) AllReadyH.nil
    all_goals (
     go_simp;refine (uh HT6).mono ?_;rintro e w7 ⟨r7,rfl,o7,b7⟩;obtain⟨ra,rg,rc,rfl,-,-⟩:=OT.all o7;have b67:Bw w6 w7:=⟨b7.os,b7.tape,b7.output,b7.size,b7.block⟩;have hab:Bw w7 (w7.alloc (.cells #[.int .i64 (m.no+1),.string p.doc,.slice ra (ZF p.ops).length rc] 57)):=zu _ _;have b68:=zh b67 hab;have S7:=zb (uh U _ b67).2;have S8:=zb (uh U _ b68).2;have i0:=(uh U _ b67).1;have j0:=(uh U _ b68).1;have O8:=zb ((uh P).below b68);have E8:Hid (zT.E (w7.alloc (.cells #[.int .i64 (m.no+1),.string p.doc,.slice ra (ZF p.ops).length rc] 57)) [.int .i64 (m.no+1),.string p.doc,.slice ra (ZF p.ops).length rc] ⟨m.no+1,p.doc,Zk p.ops⟩ (Value.slice ra (ZF p.ops).length rc).ownBlock.toList):=⟨_,rfl,(GC o7).1.below hab⟩;have HFI:Hid (Zj w4.heap.size (Value.slice ra (ZF p.ops).length rc).ownBlock.toList):=⟨by cases ra<;>simp[Value.ownBlock],fun b hb=>by have h1:=(GC o7).2 b (by simpa using hb);have:=uh l;have:=uh HZU;have h2:=(uh HDR).size;omega⟩;have HNI:Hid (∀ b∈(Value.slice ra (ZF p.ops).length rc).ownBlock.toList,b ∉ bl5):=fun b hb hbl=>by have h1:=(GC o7).2 b (by simpa using hb);have h2:=(uh P).lt b hbl;have h3:=(uh HDR).size;omega
     have HONE:Hid (∀ u∈[Value.int .i64 (m.no+1),.string p.doc,.slice ra (ZF p.ops).length rc],u.oneCell'=true):=fun u hu=>by simp at hu;rcases hu with rfl | rfl | rfl<;>rfl
     have HBS:Hid (w4.heap.size<=(w7.alloc (.cells #[.int .i64 (m.no+1),.string p.doc,.slice ra (ZF p.ops).length rc] 57)).heap.size):=by have:=uh l;have:=uh HZU;have:=b68.size;show _<=_;omega
     have O:Hid (f<(w7.alloc (.cells #[.int .i64 (m.no+1),.string p.doc,.slice ra (ZF p.ops).length rc] 57)).heap.size/\(w7.alloc (.cells #[.int .i64 (m.no+1),.string p.doc,.slice ra (ZF p.ops).length rc] 57)).heap[f]?=some (.cells #[.slice pa vs.length pc] 35 (0,0))):=by have h1:=(b68.block f (by have:=uh HZU;omega)).trans (uh W);exact⟨(yB.1 h1).1,h1⟩
     have I:=zb b68;refine y.out _ _ (uh S7) (fun hHeld=>?_);clear y K b67 hab b68 o7 b7;try simp only[Act.put]
     (refine wpAnyH_take (i:=10) (v:=?_) rfl (by kernel_rfl) (by kernel_rfl) (by kernel_rfl) (fun _ _ _ h=>h) (Or.inl ⟨by rfl,?_⟩) (by assumption) ?_;rotate_left 1;·(intro wy j;obtain⟨y0,y1,y2⟩:=j;go_simp;try with_reducible rfl);try simp only[Act.put]))
    rotate_left 1;refine wpAnyH_ready (rs:=[1,11]) (by kernel_rfl) (by simp) ?_;refine AllReadyH.cons rfl (fun K y=>?_) (AllReadyH.cons rfl (fun K y=>?_) AllReadyH.nil);go_simp;refine y.out _ _ (uh S7) (fun hHeld=>?_);clear y K;try simp only[Act.put]
    rotate_left 1;go_simp;refine y.out _ _ (uh S8) (fun hHeld=>?_);clear y K;try simp only[Act.put]
    refine wpAnyH_ready (rs:=[1]) (by kernel_rfl) (by simp) ?_;refine AllReadyH.cons rfl (fun K y=>?_) AllReadyH.nil;go_simp;refine y.out _ _ (uh S8) (fun hHeld=>?_);clear y K;try simp only[Act.put]
    rotate_left 1;refine wpAnyH_ready (rs:=[11]) (by kernel_rfl) (by simp) ?_;refine AllReadyH.cons rfl (fun K y=>?_) AllReadyH.nil;go_simp;refine y.out _ _ (uh S8) (fun hHeld=>?_);clear y K;try simp only[Act.put]
    rotate_left 1;refine wpAnyH_ready (rs:=[11]) (by kernel_rfl) (by simp) ?_;refine AllReadyH.cons rfl (fun K y=>?_) AllReadyH.nil;go_simp;refine y.out _ _ (uh S8) (fun hHeld=>?_);clear y K;try simp only[Act.put]
    all_goals (
     refine wpAnyH_ready (rs:=[12]) (by kernel_rfl) (by simp) ?_;refine AllReadyH.cons rfl (fun K y=>?_) AllReadyH.nil;refine Na (e:=zT) XF (by decide) underlying33 Nc rfl (by decide) (by decide) rfl (.tmp 36) (.tmp 46) rfl rfl (uh O8) (uh V) (uh E8) (uh HFI) (uh HNI) rfl (by exact Nb w7 [_,_,_] _) (uh HONE) (uh HBS) (by omega) ?_;intro v9 w9 bl9 o9 f9 m9 hg9;obtain⟨Y,Z,rfl,-,-⟩:=o9.form;have kU9:=(hg9.block f (uh O).1 fun e=>Wy (uh O).2 (Wx (uh O8)) (by decide) ((uh O8).head e.symm)).trans (uh O).2;have cU9:w9.cell? ⟨f,0,none⟩=some (.slice pa vs.length pc):=yF kU9 0;have fU9:=yI kU9;have hk9:∀ k,k<w4.heap.size->w9.heap[k]?=w6.heap[k]?:=fun k X=>(hg9.block k (by have:=(uh I).size;have:=uh l;have:=uh HZU;omega) fun e=>by have:=(uh V).2 _ ((uh P).head e.symm);omega).trans ((uh I).block k (by have:=uh l;have:=uh HZU;omega));have S9:Hid (w9.cell? ⟨q,0,none⟩=some (.int .i64 m.no)/\w9.cell? ⟨w.heap.size+1,2,none⟩=some (.string p.doc)/\w9.cell? ⟨w.heap.size+1,0,none⟩=some (.slice oa p.ops.length oc)):=⟨yF ((hk9 q (uh l).1).trans (uh HV6)) 0,yF ((hk9 _ (by have:=uh l;have:=uh J;omega)).trans (uh D).k1) 2,yF ((hk9 _ (by have:=uh l;have:=uh J;omega)).trans (uh D).k1) 0⟩;try simp only[Act.put]
     refine y.out _ _ (uh S9) (fun hHeld=>?_);clear y K;try simp only[Act.put]
     refine wpAnyH_take (i:=13) (v:=?_) rfl (by kernel_rfl) (by kernel_rfl) (by kernel_rfl) (fun _ _ _ h=>h) (Or.inl ⟨by rfl,?_⟩) (by assumption) ?_;rotate_left 1
     ·(intro wy j;obtain⟨y0,y1,y2⟩:=j;go_simp;try with_reducible rfl)
     try simp only[Act.put]
     refine wpAnyH_ready (rs:=[14]) (by kernel_rfl) (by simp) ?_;refine AllReadyH.cons rfl (fun K y=>?_) AllReadyH.nil;go_simp;refine y.out _ _ (by simp only[Qw nu1,Qw nu3];exact uh S9) (fun hHeld=>?_);clear y K hHeld;try simp only[Act.put]
     refine wpAnyH_done (by kernel_rfl) ?_ _)
    all_goals (
     rw[yh,yR]at o9;have hU10:=heap_setCell_same w9 f 0 _ _ (.slice Y (vs.length+1) Z) kU9;have hn9:=Wy kU9 (Wx o9) (by decide);have O10:=zb (o9.other hn9 0 (.slice Y (vs.length+1) Z));have HF9:=zb f9;have hGE:∀ g,(Value.slice pa vs.length pc).ownBlock=some g->w4.heap.size<=g:=fun g hg=>(uh V).2 g ((uh P).head hg);have HKB:Hid (∀ k,k<w4.heap.size->(w9.setCell ⟨f,0,none⟩ (.slice Y (vs.length+1) Z)).heap[k]?=w6.heap[k]?):=fun k X=>by
      have h1:=uh l;have h2:=uh HZU;refine (Below.heap_setCell _ _ _ _ (by simp;omega)).trans ?_;exact (hg9.block k (by have:=(uh I).size;omega) fun e=>by have:=hGE _ e.symm;omega).trans ((uh I).block k (by omega))
     have G:Hid (Bw w (w9.setCell ⟨f,0,none⟩ (.slice Y (vs.length+1) Z))):=by
      have h1:=uh l;have h2:=uh J;have hb:=zh (uh T) (uh I);exact (hb.grown hg9 hb.size fun k X=>by have:=hGE k X;omega).setCell (p:=⟨f,0,none⟩) (by simp;omega) _
     have C:=zb ((uh D).kp fun k _ X=>uh HKB k (by have:=uh l;have:=uh J;omega));have H:Hid (VB q m (.slice ta m.touched.length tc) _):=(uh HKB q (uh l).1).trans (uh HV6);have n:=zb hU10;have HLL:Hid ((vs++[⟨m.no+1,p.doc,Zk p.ops⟩]:List zl).length=vs.length+1):=by show _=_;simp
     clear O8 E8 HFI HNI HONE HBS O I o9 f9 m9 hg9 kU9 cU9 fU9 hk9 S6 S7 S8 S9 nu1 nu2 nu3 nu4 hn9 hU10 hGE HKB i0 j0 e0 e1 e2 e3 g0 HT6 U D T HV6 P W HDR hwr;have HQT:Hid (∀ x∈(vs++[⟨m.no+1,p.doc,Zk p.ops⟩]:List zl),x.touched.length<=2097152):=fun x hx=>by
      rcases List.mem_append.1 hx with h | h
      ·have:=uh HVZ x h;omega
      ·rw[List.mem_singleton]at h;subst h;have:=MZ p.ops;show (Zk p.ops).length<=_;omega
     have M:Hid (w.heap.size+1+1+1+1<w4.heap.size/\w4.heap.size<=f):=by have h1:=uh l;have h2:=uh J;exact⟨by omega,h1.2⟩
     clear HVZ;generalize hQ:(vs++[⟨m.no+1,p.doc,Zk p.ops⟩]:List zl)=qs at *;generalize hL:vs.length+1=L at *;generalize w9.setCell _ _=d at *;generalize w4.heap.size=N4 at *;have u0:d.cell? ⟨f,0,none⟩=some (.slice Y L Z):=yF (uh n) 0;have fU:=yI (uh n);have hL9:L<=9:=by omega
     have HQL:=zb (uh HLL);clear hQ hL hl8 HLL;by_cases h9:L=9
     case' pos=>
      have hgt:(8:Int)<(L:Int):=by omega
      have hsb:(L:Int) - 8=1:=by omega
      have HCC:Hid (Calls prog 36 #[.agg #[.slice Y L Z],.int .i64 1] d _):=MV (.slice Y L Z) qs 1 bl9 d (uh O10) ⟨by have:=uh HQL;omega,uh HQT⟩ (by have:=uh HQL;omega);have HKE:Hid (qs.drop 1=QN qs):=by show _=_;unfold QN;rw[uh HQL,h9]
      clear h9 HQT;go_wp2_with fail;refine (uh HCC).mono ?_;rintro e w11 ⟨p11,bl11,rfl,o11,f11,b11⟩;rw[uh HKE]at o11;obtain⟨Y,Z,rfl,-,-⟩:=o11.form;have kU:=(b11.block f (yB.1 (uh n)).1).trans (uh n);have u1:w11.cell? ⟨f,0,none⟩=some (.slice _ L _):=yF kU 0;have fU1:=yI kU;have hsz:=(uh M);have hw10:=(uh G).size;have hb11:=b11.size;have hVl:=(yB.1 (uh H)).1;have hUl:=(yB.1 (uh n)).1;have C:=zb (((uh C).next b11).kp (w':=w11.setCell ⟨f,0,none⟩ (.slice Y (QN qs).length Z)) fun k _ X=>Below.heap_setCell _ _ _ _ (by simp;omega));have H:Hid (VB q m (.slice ta m.touched.length tc) (w11.setCell ⟨f,0,none⟩ (.slice Y (QN qs).length Z))):=(Below.heap_setCell _ _ _ _ (by have:=uh l;simp;omega)).trans ((uh H).next b11);have G:Hid (Bw w (w11.setCell ⟨f,0,none⟩ (.slice Y (QN qs).length Z))):=(zh (uh G) b11).setCell (p:=⟨f,0,none⟩) (by simp;omega) _;have n:=zb (heap_setCell_same w11 f 0 _ _ (.slice Y (QN qs).length Z) kU);have O10:=zb (o11.other (Wy kU (Wx o11) (by decide)) 0 (.slice Y (QN qs).length Z));have HF9:Hid (Zj N4 bl11):=f11.mono (by omega);clear HCC o11 f11 b11 kU hsz hw10 hb11 u0 fU hVl hUl hgt hsb HQL hL9;generalize hL:(QN qs).length=L at *;clear hL;go_wp2_with fail;generalize w11.setCell _ _=d at *;clear u1 fU1
     case' neg=>
      have hgt:¬ (8:Int)<(L:Int):=by omega
      have HKE:Hid (QN qs=qs):=by show _=_;unfold QN;rw[uh HQL,show L - 8=0 by omega];rfl
      rw[← uh HKE]at O10;clear h9 HQT HQL hL9;go_wp2_with fail
     all_goals (
      have hsz:=uh M;have B:Bw d d.drew:=(yH _ _).drew;have u0:d.cell? ⟨f,0,none⟩=some (.slice Y L Z):=yF (uh n) 0;have y0:d.cell? ⟨q,0,none⟩=some (.int .i64 m.no):=yF (uh H) 0;have u0':d.drew.cell? ⟨f,0,none⟩=some (.slice Y L Z):=u0;have y0':d.drew.cell? ⟨q,0,none⟩=some (.int .i64 m.no):=y0;obtain⟨c2,⟨p0,p1,p2,p3⟩,⟨v0,v1,v2,v3⟩,f2,f3,f4⟩:=(uh C).ac;have hwr:IntKind.i64.wrap (m.no+1)=m.no+1:=by have:=uh HNK;rw[IntKind.wrap_i64];omega
      have hgv:=uh J;have n1:¬ f=w.heap.size+1+1:=by omega
      have n2:¬ f=w.heap.size+1+1+1:=by omega
      have n3:¬ f=w.heap.size+1+1+1+1:=by omega
      have n4:¬ q=w.heap.size+1+1:=by omega
      have n5:¬ q=w.heap.size+1+1+1:=by omega
      have n6:¬ q=w.heap.size+1+1+1+1:=by omega
      have n1':¬ w.heap.size+1+1=f:=by omega
      have n2':¬ w.heap.size+1+1+1=f:=by omega
      have n3':¬ w.heap.size+1+1+1+1=f:=by omega
      have n4':¬ w.heap.size+1+1=q:=by omega
      have n5':¬ w.heap.size+1+1+1=q:=by omega
      have n6':¬ w.heap.size+1+1+1+1=q:=by omega
      have HN1:=zb (uh M).1;have HAD:=zb ((uh C).next B);have HBD:=zb (zh (uh G) B);have HOD:=zb ((uh O10).below B);clear hsz B hgv C G O10 H n HNK J l M HZU;go_region_held3 (fun w'=>w'.cell? ⟨f,0,none⟩=some (.slice Y L Z)/\w'.cell? ⟨q,0,none⟩=some (.int .i64 m.no)) (first | with_reducible exact⟨u0',y0'⟩ |(simp only[show ∀ (w:Wo) (a:Addr),w.drew.cell? a=w.cell? a from fun _ _=>rfl,Qw n1',Qw n2',Qw n3',Qw n4',Qw n5',Qw n6'];with_reducible exact⟨u0,y0⟩)) (fail)
      all_goals (
       go_wp2;change bodyPost _ _ _ _ _ (Vj d w.heap.size (.slice Y L Z) (.slice none 0 0) (.int .i64 0) (.string ⟨#[]⟩) (.int .i64 0) (.int .i64 2) (.int .i64 0) (.int .i64 0) (.int .i64 (m.no+1))).drew;rw[M3];refine bodyPost_ret (Vk rfl (uh HAD) rfl rfl rfl rfl) rfl ?_;rw[uh F];exact Vl (a:=⟨QN qs,Jt,2,0,0,m.no+1⟩) (uh HBD) (uh HN1) (uh HOD) (uh HF9) (Yz _ _))))
   ·have tq:(p.base ==m.no)=false:=by simp[hbn]
    have HBN:=zb hbn;obtain⟨hpb,hpm,ht0,ht4⟩:=uh HPK;have HMC:=zb (uh HME hpb hpm);clear hbn HME HTC hpb hpm HVZ HPK HNK;go_wp2_with fail;generalize w3.alloc _=w4 at *;generalize w3.heap.size=q at *;refine (uh HC4).mono ?_;rintro e w5 ⟨p5,bl5,rfl,o5,f5,b5⟩;obtain⟨pa,pc,rfl,-,-⟩:=o5.form;have R:=zu w5 (.cells #[.slice pa vs.length pc] 35);have kU:=yG w5 (.cells #[.slice pa vs.length pc] 35);have Q:=zh b5 R;have D:=zb ((uh HA4).next Q);have T:=zb (zh (uh HB4) Q);have HV6:=zb ((uh HV4).next Q);have P:=zb (o5.below R);have V:=zb f5;have W:=zb kU;have M:Hid (w.heap.size+1+1+1+1<w4.heap.size/\w4.heap.size<=w5.heap.size):=⟨(uh HA4).lt,b5.size⟩;have HM6:=zb (uh HMC _ (uh T));have x6:=yF (uh D).k0 0;obtain⟨q0,q1,q2,q3⟩:=Zt.of (uh D).k1;clear HC4 o5 f5 b5 R kU Q HA4 HB4 HV4 x0 tq HMC;by_cases h4:4<p.tries+1
    ·have F:=zb (zcA (vs:=vs) (uh HBN) h4);rw[← uh HY]at F;obtain⟨c2,⟨p0,p1,p2,p3⟩,⟨v0,v1,v2,v3⟩,f2,f3,f4⟩:=(uh D).ac;clear HM6 HAP HY;go_wp2;refine bodyPost_ret (Vk rfl (uh D) rfl rfl rfl rfl) rfl ?_;rw[uh F];exact Vl (a:=⟨vs,Jt,4,0,0,0⟩) (uh T) (uh M).1 (uh P) (uh V) (Yz _ _)
    ·have HN9:=zb h4;go_wp2_with fail;generalize w5.alloc _=w6 at *;generalize w5.heap.size=f at *;refine (uh HM6).mono ?_;rintro e w7 ⟨rfl,b7⟩;have HA7:=zb ((uh D).next b7);have HB7:=zb (zh (uh T) b7);have HV7:=zb ((uh HV6).next b7);have HO7:=zb ((uh P).below b7);have HU7:=zb ((b7.block f (yB.1 (uh W)).1).trans (uh W));have u7:w7.cell? ⟨f,0,none⟩=some (.slice pa vs.length pc):=yF (uh HU7) 0;clear HM6 b7 D T HV6 P W x6 q0 q1 q2 q3
     cases hmt:meets vs (Zk p.ops) p.base with
     | true=>
      have F:=zb (zcB (uh HBN) (by have:=uh HN9;omega) hmt);rw[← uh HY]at F;obtain⟨c2,⟨p0,p1,p2,p3⟩,⟨v0,v1,v2,v3⟩,f2,f3,f4⟩:=(uh HA7).ac;clear HAP HY hmt;go_wp2;refine bodyPost_ret (Vk rfl (uh HA7) rfl rfl rfl rfl) rfl ?_;rw[uh F];exact Vl (a:=⟨vs,Jt,3,0,0,0⟩) (uh HB7) (uh M).1 (uh HO7) (uh V) (Yz _ _)
     | false=>
      have F:=zb (zcC (uh HBN) (by have:=uh HN9;omega) hmt);rw[← uh HY]at F;have HP7:=zb (uh HAP _ (uh HB7));have y1:w7.cell? ⟨q,1,none⟩=some (.string m.doc):=yF (uh HV7) 1;have q0:w7.cell? ⟨w.heap.size+1,0,none⟩=some (.slice oa p.ops.length oc):=yF (uh HA7).k1 0;generalize qk m.doc p.ops=A at *;obtain⟨dd,ac,ai⟩:=A;simp only at HP7;clear HAP HY hmt u7;go_wp2_with fail;refine (uh HP7).mono ?_;rintro e w8 ⟨rfl,b8⟩;have HA8:=zb ((uh HA7).next b8);have I:=zb (zh (uh HB7) b8);have HV8:=zb ((uh HV7).next b8);have HO8:=zb ((uh HO7).below b8);have O:=zb ((b8.block f (yB.1 (uh HU7)).1).trans (uh HU7));have u8:w8.cell? ⟨f,0,none⟩=some (.slice pa vs.length pc):=yF (uh O) 0;clear HP7 b8 HA7 HB7 HV7 HO7 HU7 y1 q0;by_cases hac:ac=0
      ·subst hac;have HE:Hid (Z3 (w8.alloc (.cells #[] 95)) w8.heap.size (.slice (some ⟨w8.heap.size,0,none⟩) 0 0) []):=Dz w8 95 4;have R:=zu w8 (.cells #[] 95);have zN:(w8.alloc (.cells #[] 95)).heap.size=w8.heap.size+1:=by simp
       have HOP:=zb ((uh HO).below (zh (uh I) R));have HA9:=zb ((uh HA8).next R);have HB9:=zb (zh (uh I) R);have HV9:=zb ((uh HV8).next R);have HO9:=zb ((uh HO8).below R);have HU9:=zb ((R.block f (yB.1 (uh O)).1).trans (uh O));have q0:(w8.alloc (.cells #[] 95)).cell? ⟨w.heap.size+1,0,none⟩=some (.slice oa p.ops.length oc):=yF (uh HA9).k1 0;have hol:p.ops.length<=1048576:=by have:=uh HZ;unfold Z4 at this;omega
       have HZN:=zb zN;have HLU:Hid (f<w8.heap.size/\q<w8.heap.size/\w.heap.size+1+1+1+1<w8.heap.size/\∀ b∈bl5,b<w8.heap.size):=⟨(yB.1 (uh O)).1,(yB.1 (uh HV8)).1,(uh HA8).lt,(uh HO8).lt⟩;clear R zN HA8 I HV8 HO8 O u8;go_wp2_with (at_builtin;refine zcv rfl (.tmp 100) (.tmp 102) rfl rfl (uh HE) rfl (uh HOP) (by omega) (by rw[uh HZN];omega) ?_);intro v10 d o10 hg10;obtain⟨oa2,oc2,rfl⟩:=YS o10;have y:∀ k,k<w8.heap.size->d.heap[k]?=(w8.alloc (.cells #[] 95)).heap[k]?:=fun k X=>hg10.block k (by rw[uh HZN];omega) (fun e=>by injection e with e;simp at e;omega);have hl:=uh HLU;have C:=zb ((uh HA9).kp fun k _ h=>y k (by omega));have G:Hid (Bw w d):=(uh HB9).grown hg10 (uh HB9).size (fun k X=>by injection X with X;simp at X;omega);have n:=zb ((y f hl.1).trans (uh HU9));have H:Hid (VB q m (.slice ta m.touched.length tc) d):=(y q hl.2.1).trans (uh HV9);have HO10:=zb ((uh HO9).keep fun b hb=>y b (hl.2.2.2 b hb));have HOP10:=zb o10;have hN4:=uh M;have HN8:Hid (w.heap.size+1+1+1+1<w8.heap.size):=hl.2.2.1;clear HE HOP HA9 HB9 HU9 HV9 HO9 o10 hg10 y q0 HZN;generalize w8.heap.size=N8 at *;generalize w4.heap.size=N4 at *;have B:Bw d d.drew:=(yH _ _).drew;have u0:d.cell? ⟨f,0,none⟩=some (.slice pa vs.length pc):=yF (uh n) 0;have y0:d.cell? ⟨q,0,none⟩=some (.int .i64 m.no):=yF (uh H) 0;have t0:d.cell? ⟨w.heap.size+1,3,none⟩=some (.int .i64 p.tries):=yF (uh C).k1 3;have u0':d.drew.cell? ⟨f,0,none⟩=some (.slice pa vs.length pc):=u0;have y0':d.drew.cell? ⟨q,0,none⟩=some (.int .i64 m.no):=y0;have t0':d.drew.cell? ⟨w.heap.size+1,3,none⟩=some (.int .i64 p.tries):=t0;obtain⟨c2,⟨p0,p1,p2,p3⟩,⟨v0,v1,v2,v3⟩,f2,f3,f4⟩:=(uh C).ac;have hwr:IntKind.i64.wrap (p.tries+1)=p.tries+1:=by rw[IntKind.wrap_i64];omega
       have hgv:=uh J;have n1:¬ f=w.heap.size+1+1:=by omega
       have n2:¬ f=w.heap.size+1+1+1:=by omega
       have n3:¬ f=w.heap.size+1+1+1+1:=by omega
       have n4:¬ q=w.heap.size+1+1:=by omega
       have n5:¬ q=w.heap.size+1+1+1:=by omega
       have n6:¬ q=w.heap.size+1+1+1+1:=by omega
       have n1':¬ w.heap.size+1+1=f:=by omega
       have n2':¬ w.heap.size+1+1+1=f:=by omega
       have n3':¬ w.heap.size+1+1+1+1=f:=by omega
       have n4':¬ w.heap.size+1+1=q:=by omega
       have n5':¬ w.heap.size+1+1+1=q:=by omega
       have n6':¬ w.heap.size+1+1+1+1=q:=by omega
       have m1:¬ w.heap.size+1+1=w.heap.size+1:=by omega
       have m2:¬ w.heap.size+1+1+1=w.heap.size+1:=by omega
       have m3:¬ w.heap.size+1+1+1+1=w.heap.size+1:=by omega
       have HAD:=zb ((uh C).next B);have HBD:=zb (zh (uh G) B);have HOD:=zb ((uh HO10).below B);have HPD:Hid (Z3 d.drew _ _ p.ops):=ZB (uh HOP10) B;clear hl hN4 B hgv C G HO10 H n J HOP10 HLU;go_wp2_with fail;go_region_held3 (fun w'=>w'.cell? ⟨f,0,none⟩=some (.slice pa vs.length pc)/\w'.cell? ⟨q,0,none⟩=some (.int .i64 m.no)/\w'.cell? ⟨w.heap.size+1,3,none⟩=some (.int .i64 p.tries)) (first | with_reducible exact⟨u0',y0',t0'⟩ |(simp only[show ∀ (w:Wo) (a:Addr),w.drew.cell? a=w.cell? a from fun _ _=>rfl,Qw n1',Qw n2',Qw n3',Qw n4',Qw n5',Qw n6',Qw m1,Qw m2,Qw m3];with_reducible exact⟨u0,y0,t0⟩)) (fail)
       all_goals (
        go_wp2;change bodyPost _ _ _ _ _ (Vj d w.heap.size (.slice pa vs.length pc) (.slice oa2 p.ops.length oc2) (.int .i64 m.no) (.string dd) (.int .i64 (p.tries+1)) (.int .i64 1) (.int .i64 0) (.int .i64 0) (.int .i64 0)).drew;rw[M3];refine bodyPost_ret (Vk rfl (uh HAD) rfl rfl rfl rfl) rfl ?_;rw[uh F];refine Vl (a:=⟨vs,⟨p.ops,m.no,dd,p.tries+1⟩,1,0,0,0⟩) (N:=min N4 N8) (uh HBD) ?_ (uh HOD) ((uh V).mono (Nat.min_le_left _ _)) (qT (uh HPD) (Nat.min_le_right _ _));have h1:=(uh M).1;have h2:=uh HN8;omega)
      ·have HZ2:Hid (Ju vs p=⟨vs,Jt,5,ac,ai,0⟩):=by show _=_;rw[uh F];unfold Ww;rw[yf hac]
       have hacI:(ac !=0)=true:=by simpa using hac
       obtain⟨c2,⟨p0,p1,p2,p3⟩,⟨v0,v1,v2,v3⟩,f2,f3,f4⟩:=(uh HA8).ac;clear hac F;go_wp2;refine bodyPost_ret (Vk rfl (uh HA8) rfl rfl rfl rfl) rfl ?_;rw[uh HZ2];exact Vl (a:=⟨vs,Jt,5,ac,ai,0⟩) (uh I) (uh M).1 (uh HO8) (uh V) (Yz _ _)
end Go.Proofs.YtekpghcckdjnhaaGreatDoor
namespace Go.Proofs.YtekpghcckdjnhaaGreatDoor
open Go.ChangeShapes Go.WideShapes Go.ChangeAt Go.RowKit Go.Deep Go.Proofs.Tryz
section
variable {H:Type} {enc:TypeId×Value->H} {w:Wo} {sp:Nat->Bool} {held:Bool}
theorem zdl{n:Nat}{cs:List Value}{y:DataW H×List MemPlace}(h:DataW.trod enc prog w 0 sp held n 45 cs=some y):∃ p,YU w (.agg cs.toArray) p/\p.doc.size<=maxLen:=by
 obtain⟨L,k,_,_,D,i,d⟩:=DataW.trod_struct underlying45 h;have g:cs.length=4:=D.trans (by kernel_rfl);obtain⟨j,f,b,a,rfl⟩:=XK g;obtain⟨r,s,u,x,rfl⟩:=XK i;have l:DataW.trod enc prog w 0 sp held k 43 (List.take (prog.cellsOf 43) [j,f,b,a])=some r:=d 0 _ rfl;have m:DataW.trod enc prog w 0 sp held k 3 (List.take (prog.cellsOf 3) [f,b,a])=some s:=d 1 _ rfl;have o:DataW.trod enc prog w 0 sp held k 9 (List.take (prog.cellsOf 9) [b,a])=some u:=d 2 _ rfl;have q:DataW.trod enc prog w 0 sp held k 3 (List.take (prog.cellsOf 3) [a])=some x:=d 3 _ rfl;rw[show prog.cellsOf 43=1 from by kernel_rfl]at l;rw[show prog.cellsOf 3=1 from by kernel_rfl]at m q;rw[show prog.cellsOf 9=1 from by kernel_rfl]at o;obtain⟨v,E,z,F⟩:=zat (l:DataW.trod enc prog w 0 sp held k 43 [j]=some r);obtain⟨I,A⟩:=Xs underlying3 (m:DataW.trod enc prog w 0 sp held k 3 [f]=some s);obtain⟨G,B,J⟩:=W7 underlying9 (o:DataW.trod enc prog w 0 sp held k 9 [b]=some u);obtain⟨K,C⟩:=Xs underlying3 (q:DataW.trod enc prog w 0 sp held k 3 [a]=some x)
 cases z;cases A;cases B;cases C;exact⟨⟨E,I,G,K⟩,⟨_,rfl,F⟩,J⟩
end
end Go.Proofs.YtekpghcckdjnhaaGreatDoor
