import Derived.WalkLawsBesides
import Derived.Test.YtgoafoojaceadaaGreatDoorBc1
import Derived.Deep.CutRange
import Derived.Lib.QuietBelow
import Derived.Lib.ValidLaws
import Derived.Lib.RuneCount
import Derived.Laws.DeepStrings4
import Derived.Sort.Walk0
import Derived.Deep.RegionHeld3
set_option maxRecDepth 100000
set_option maxHeartbeats 8000000
open Go renaming Calls->δ,Value->ω
open Go.ByteArray renaming toList_eq->Ε
open Go.Ending renaming returned->ε
open Go.IntKind renaming i64->κ
open Go.Lib renaming decodeN->Η,encodeRune->Θ,toList_data->ϋ,validD->Γ
open Go.Obj renaming cells->χ
open Go.Value renaming agg->γ,bool->θ,iface->φ,int->ι,pointer->π,slice->ς,string->σ,tuple->τ
open _root_.Bool renaming eq_iff_iff->ό,false->ζ,or_assoc->Ω,true->ξ
open _root_.List renaming drop_drop->Ϗ,drop_left->ϐ,drop_zero->ϑ,flatMap_cons->Μ,foldl_cons->ύ,getD_eq_getElem?_getD->Ζ,getElem?_append_left->Φ,getElem?_take_of_lt->Ο,getElem_cons_succ->Τ,length->Κ,map_congr_left->Υ,map_map->ϊ,map_nil->Ν,mem_cons->Ι,pairwise_cons->Ρ,take_succ_cons->Ξ
open _root_.Option renaming bind_eq_some_iff->Β,none->ν,some->η
open _root_.UInt8 renaming ofNat->Α,ofNat_toNat->Χ,toNat->ώ,toNat_ofNat'->Δ
namespace Go.Proofs.YtgoafoojaceadaaGreatDoor
open Go.RowKit Go.Proofs.Tryz
variable{i n g rb j B r v k cap z u r0 b0 b1 b2 b3:Nat}{s t T:Bs}{w w' a:Wo}{ok b tw tb kt:Bool}{l m:List UInt8}{c:UInt8}{cs:List (List UInt8)}
structure KB(rb:Nat)(w w':Wo):Prop where
 os:w'.os=w.os
 tape:w'.tape=w.tape
 output:w'.output=w.output
 size:w.heap.size<=w'.heap.size
 block:∀ k,k<w.heap.size->k≠rb->w'.heap[k]?=w.heap[k]?
theorem KB.refl(rb:Nat)(w:Wo):KB rb w w:=⟨rfl,rfl,rfl,ye _,fun _ _ _=>rfl⟩
theorem KB.trans{b c:Wo}(h:KB rb a b)(k:KB rb b c):KB rb a c:=
 ⟨k.os.trans h.os,k.tape.trans h.tape,k.output.trans h.output,yQ h.size k.size,fun i hi hn=>(k.block i (yF hi h.size) hn).trans (h.block i hi hn)⟩
theorem KB.drew(h:KB rb a w):KB rb a w.drew:=⟨h.os,h.tape,h.output,h.size,h.block⟩
theorem KB.drewN(h:KB rb a w)(n:Nat):KB rb a (w.drewN n):=⟨h.os,h.tape,h.output,h.size,h.block⟩
theorem KB.set(h:KB rb a w)(j:Nat)(v:ω):KB rb a (w.setCell ⟨rb,j,ν⟩ v):=
 h.trans ⟨rfl,rfl,rfl,by simp[World.setCell],fun k _ hn=>Below.heap_setCell _ _ _ _ hn⟩
theorem KB.of_below(h:Below w w w'):KB rb w w':=⟨h.os,h.tape,h.output,h.size,fun k hk _=>h.block k hk⟩
theorem KB.below(h:KB rb w w')(hB:B<=rb)(hs:B<=w.heap.size):Below B w w':=⟨h.os,h.tape,h.output,h.size,fun k hk=>h.block k om om⟩
def JW:Ending:=.panicked [{v:=φ 204 (γ #[]),recovered:=ζ}]
theorem YP(s:Bs)(i:Nat)(h:s.size<=i):bt s i=0:=by
 unfold bt;rw[Ζ,List.getElem?_eq_none (by rw[Zk];exact h)];rfl
theorem Zf(h:bt s i≠0):i<s.size:=by
 rcases Nat.lt_or_ge i s.size with g | g
 .exact g
 .exact absurd (YP s i g) h
def zr(rb:Nat)(s:Bs)(i:Nat)(tb kt:Bool)(w:Wo):Prop:=w.heap[rb]?=η (χ #[.string s,ι κ (i:Int),θ tb,θ kt] 140 (0,0))
theorem zr.text(h:zr rb s i tb kt w):w.cell? rb=η s:=by rw[yG h];rfl
theorem zr.at(h:zr rb s i tb kt w):w.cell? ⟨rb,1,ν⟩=η (ι κ (i:Int)):=by rw[yG h];rfl
theorem zr.frozen(h:zr rb s i tb kt w):w.frozen? ⟨rb,1,ν⟩=ζ:=yJ h 1
theorem zr.lt(h:zr rb s i tb kt w):rb<w.heap.size:=(yC.1 h).1
theorem zr.set(h:zr rb s i tb kt w)(z:Int)(j:Nat)(hz:z=(j:Int)):zr rb s j tb kt (w.setCell ⟨rb,1,ν⟩ (ι κ z)):=by
 subst hz;have:=heap_setCell_same w rb 1 _ 140 (ι κ (j:Int)) h;exact this
theorem zr.drewN(h:zr rb s i tb kt w)(n:Nat):zr rb s i tb kt (w.drewN n):=h
theorem zr.below(h:zr rb s i tb kt w)(hb:Below w w w'):zr rb s i tb kt w':=(hb.block rb h.lt).trans h
theorem Y1(rb:Nat)(s:Bs)(i:Nat)(tb kt:Bool)(w:Wo)(h:zr rb s i tb kt w)(hs:s.size<=1048576)(hi:i<s.size):
  δ prog 236 #[rb] w fun e w'=>e=ε (.int .u8 (bt s i))/\zr rb s (i+1) tb kt w'/\KB rb w w':=by
 have c0:=h.text;have c1:=h.at;have d:=h.frozen;have b:((i:Int) ==(s.size:Int))=ζ:=by rw[yd];omega
 have a:=zb (Zw s i hi);have H:=zb h;go_in;go_wp2_with fail;go_quiet (fail);go_wp2_with fail;go_quiet (fail);go_wp2;go_ret;exact⟨by rw[uh a];rfl,(H.drewN _).set _ _ om,((KB.refl rb w).drewN _).set 1 _⟩
theorem DY(rb:Nat)(s:Bs)(i:Nat)(tb kt:Bool)(w:Wo)(h:zr rb s i tb kt w)(hi:i=s.size):
  δ prog 236 #[rb] w fun e w'=>e=JW/\KB rb w w':=by
 have c0:=h.text;have c1:=h.at;have b:=h.frozen;have a:((i:Int) ==(s.size:Int))=ξ:=by rw[yD];omega
 go_in;go_wp2_with fail;go_quiet (fail);go_wp2;exact⟨rfl,rfl,(KB.refl rb w).drewN _⟩
theorem zgp(rb:Nat)(s:Bs)(i:Nat)(tb kt:Bool)(w:Wo)(h:zr rb s i tb kt w)(hi:i=s.size):
  δ prog 80 #[rb] w fun e w'=>e=ε (τ #[])/\zr rb s i tb kt w'/\KB rb w w':=by
 have c0:=h.text;have c1:=h.at;have a:((i:Int) !=(s.size:Int))=ζ:=by rw[bne_eq_false_iff_eq];omega
 have H:=zb h;go_in;go_wp2_with fail;go_quiet (fail);go_wp2;go_end0;exact⟨rfl,H.drewN _,(KB.refl rb w).drewN _⟩
theorem zgq(rb:Nat)(s:Bs)(i:Nat)(tb kt:Bool)(w:Wo)(h:zr rb s i tb kt w)(hi:i≠s.size):
  δ prog 80 #[rb] w fun e w'=>e=JW/\KB rb w w':=by
 have c0:=h.text;have c1:=h.at;have a:((i:Int) !=(s.size:Int))=ξ:=by rw[bne_iff_ne];omega
 go_in;go_wp2_with fail;go_quiet (fail);go_wp2;exact⟨rfl,rfl,(KB.refl rb w).drewN _⟩
theorem W2(rb:Nat)(s:Bs)(i:Nat)(tb kt:Bool)(w:Wo)(h:zr rb s i tb kt w)(hs:s.size<=1048576)(c:Nat)(hc:bt s i=c)(h0:i<s.size):
  δ prog 210 #[rb,.int .u8 c] w fun e w'=>e=ε (τ #[])/\zr rb s (i+1) tb kt w'/\KB rb w w':=by
 have a:=zb (Y1 rb s i tb kt w h hs h0);rw[hc]at a;go_in;go_wp2_with fail;go_call a as e w1 ⟨rfl,r1,k1⟩;have b:=zb r1;go_wp2;go_end0;exact⟨rfl,b,k1⟩
theorem FL(rb:Nat)(s:Bs)(i:Nat)(tb kt:Bool)(w:Wo)(h:zr rb s i tb kt w)(hs:s.size<=1048576)(hi:i<=s.size)(c:Nat)(hc:bt s i≠c∨i=s.size):
  δ prog 210 #[rb,.int .u8 c] w fun e w'=>e=JW/\KB rb w w':=by
 by_cases d:i=s.size
 .have a:=zb (DY rb s i tb kt w h d);go_in;go_wp2_with fail;go_call a as e w1 ⟨rfl,k1⟩;exact⟨rfl,rfl,k1⟩
 .have a:=zb (Y1 rb s i tb kt w h hs om);have f:(((bt s i:Nat):Int) !=(c:Int))=ξ:=by rw[bne_iff_ne];omega
  generalize bt s i=b at *;go_in;go_wp2_with fail;go_call a as e w1 ⟨rfl,r1,k1⟩;go_wp2;exact⟨rfl,rfl,k1⟩
theorem Wq(rb:Nat)(s:Bs)(i:Nat)(tb kt:Bool)(w:Wo)(h:zr rb s i tb kt w)(hs:s.size<=1048576)(c:Nat)(hc:bt s i=c)(h0:i<s.size):
  δ prog 173 #[rb,.int .u8 c] w fun e w'=>e=ε (θ ξ)/\zr rb s (i+1) tb kt w'/\KB rb w w':=by
 have c0:=h.text;have c1:=h.at;have b:=h.frozen;have a:((i:Int) ==(s.size:Int))=ζ:=by rw[yd];omega
 rw[Zw s i h0]at hc;subst hc;have H:=zb h;go_in;go_wp2_with fail;go_quiet (fail);go_wp2;go_ret;exact⟨rfl,(H.drewN _).set _ _ om,((KB.refl rb w).drewN _).set 1 _⟩
theorem GA(rb:Nat)(s:Bs)(i:Nat)(tb kt:Bool)(w:Wo)(h:zr rb s i tb kt w)(hi:i<=s.size)(c:Nat)(hc:bt s i≠c∨i=s.size):
  δ prog 173 #[rb,.int .u8 c] w fun e w'=>e=ε (θ ζ)/\zr rb s i tb kt w'/\KB rb w w':=by
 have c0:=h.text;have c1:=h.at;have H:=zb h;by_cases d:i=s.size
 .have a:((i:Int) ==(s.size:Int))=ξ:=by rw[yD];omega
  go_in;go_wp2_with fail;go_quiet (fail);go_wp2;go_ret;exact⟨rfl,H.drewN _,(KB.refl rb w).drewN _⟩
 .have b:i<s.size:=om;have a:((i:Int) ==(s.size:Int))=ζ:=by rw[yd];omega
  have f:((s[i].toNat:Int) !=(c:Int))=ξ:=by
   rw[bne_iff_ne];rw[Zw s i b]at hc;omega
  go_in;go_wp2_with fail;go_quiet (fail);go_wp2;go_ret;exact⟨rfl,H.drewN _,(KB.refl rb w).drewN _⟩
def U0(s:Bs):Nat->Nat->Nat
 | 0,i=>i
 | f+1,i=>if bt s i=32∨bt s i=9∨bt s i=10∨bt s i=13 then U0 s f (i+1)else i
def sk(s:Bs)(i:Nat):Nat:=U0 s (s.size - i) i
theorem Xx(h:bt s i=32∨bt s i=9∨bt s i=10∨bt s i=13):sk s i=sk s (i+1):=by
 have a:i<s.size:=Zf om;unfold sk;rw[show s.size - i=(s.size - (i+1))+1 by omega,U0,yg h]
theorem FM(h:¬ (bt s i=32∨bt s i=9∨bt s i=10∨bt s i=13)):sk s i=i:=by
 unfold sk
 cases s.size - i with
 | zero=>rfl
 | succ f=>rw[U0,yf h]
theorem Eu(s:Bs):∀ f i,i+f<=s.size->i<=U0 s f i/\U0 s f i<=i+f
 | 0,i,_=>⟨ye _,ye _⟩
 | f+1,i,h=>by
  rw[U0];split
  .have:=Eu s f (i+1) om;omega
  .omega
theorem JB(h:i<=s.size):i<=sk s i/\sk s i<=s.size:=by
 have:=Eu s (s.size - i) i om;unfold sk;omega
theorem Pa(h:s.size<=i):sk s i=i:=by
 unfold sk;rw[show s.size - i=0 by omega];rfl
theorem zgr(s:Bs)(i:Nat):¬ (bt s (sk s i)=32∨bt s (sk s i)=9∨bt s (sk s i)=10∨bt s (sk s i)=13):=by
 generalize hn:s.size - i=n;induction n generalizing i with
 | zero=>rw[Pa om,YP s i om];omega
 | succ n ih=>
  by_cases h:bt s i=32∨bt s i=9∨bt s i=10∨bt s i=13
  .rw[Xx h];exact ih (i+1) om
  .rw[FM h];exact h
theorem Xy(rb:Nat)(s:Bs)(i:Nat)(tb kt:Bool)(w:Wo)(h:zr rb s i tb kt w)(hs:s.size<=1048576)(hi:i<=s.size):
  δ prog 129 #[rb] w fun e w'=>e=ε (τ #[])/\zr rb s (sk s i) tb kt w'/\KB rb w w':=by
 have u:=zb h;go_in;go_wp2_with fail;go_loopg [] (s.size - i) (fun g wr=>∃ j:Nat,g=s.size - j/\j<=s.size/\zr rb s j tb kt wr/\KB rb w wr/\sk s i=sk s j)
 case atStart=>exact⟨i,rfl,hi,u,KB.refl _ _,rfl⟩
 case round=>
  obtain⟨j,x,v,n,m,r⟩:=hrel;have HR:=zb n;have a:=zb r;have o:=zb fun (c:Nat) wa (h0:c≠0) (hc:bt s j=c) (n:zr rb s j tb kt wa)=>Wq rb s j tb kt wa n hs c hc (Zf om);have d:=zb fun (c:Nat) wa (hc:bt s j≠c) (n:zr rb s j tb kt wa)=>GA rb s j tb kt wa n v c (.inl hc);by_cases c1:bt s j=32
  .have b:Hid (sk s i=sk s (j+1)):=zb (by rw[uh a,Xx (.inl c1)]);have k:j<s.size:=Zf om;go_wp2_with fail;go_call uh o 32 _ (by decide) c1 (uh HR) as e w2 ⟨rfl,r2,k2⟩;have f:=zb r2;go_wp2;go_roundg (s.size - (j+1))
   case rel=>exact⟨j+1,rfl,om,f,m.trans k2,b⟩
   case measure=>omega
  by_cases c2:bt s j=9
  .have b:Hid (sk s i=sk s (j+1)):=zb (by rw[uh a,Xx (.inr (.inl c2))]);have k:j<s.size:=Zf om;go_wp2_with fail;go_call uh d 32 _ c1 (uh HR) as e w2 ⟨rfl,r2,k2⟩;have f:=zb r2;go_wp2_with fail;go_call uh o 9 _ (by decide) c2 (uh f) as e w3 ⟨rfl,r3,k3⟩;have l:=zb r3;go_wp2;go_roundg (s.size - (j+1))
   case rel=>exact⟨j+1,rfl,om,l,(m.trans k2).trans k3,b⟩
   case measure=>omega
  by_cases c3:bt s j=10
  .have b:Hid (sk s i=sk s (j+1)):=zb (by rw[uh a,Xx (.inr (.inr (.inl c3)))]);have k:j<s.size:=Zf om;go_wp2_with fail;go_call uh d 32 _ c1 (uh HR) as e w2 ⟨rfl,r2,k2⟩;have f:=zb r2;go_wp2_with fail;go_call uh d 9 _ c2 (uh f) as e w3 ⟨rfl,r3,k3⟩;have l:=zb r3;go_wp2_with fail;go_call uh o 10 _ (by decide) c3 (uh l) as e w4 ⟨rfl,r4,k4⟩;have p:=zb r4;go_wp2;go_roundg (s.size - (j+1))
   case rel=>exact⟨j+1,rfl,om,p,((m.trans k2).trans k3).trans k4,b⟩
   case measure=>omega
  go_wp2_with fail;go_call uh d 32 _ c1 (uh HR) as e w2 ⟨rfl,r2,k2⟩;have f:=zb r2;go_wp2_with fail;go_call uh d 9 _ c2 (uh f) as e w3 ⟨rfl,r3,k3⟩;have l:=zb r3;go_wp2_with fail;go_call uh d 10 _ c3 (uh l) as e w4 ⟨rfl,r4,k4⟩;have p:=zb r4;by_cases c4:bt s j=13
  .have b:Hid (sk s i=sk s (j+1)):=zb (by rw[uh a,Xx (.inr (.inr (.inr c4)))]);have k:j<s.size:=Zf om;go_wp2_with fail;go_call uh o 13 _ (by decide) c4 (uh p) as e w5 ⟨rfl,r5,k5⟩;have q:=zb r5;go_wp2;go_roundg (s.size - (j+1))
   case rel=>exact⟨j+1,rfl,om,q,(((m.trans k2).trans k3).trans k4).trans k5,b⟩
   case measure=>omega
  .have b:Hid (sk s i=j):=zb (by rw[uh a,FM om]);go_wp2_with fail;go_call uh d 13 _ c4 (uh p) as e w5 ⟨rfl,r5,k5⟩;have q:=zb r5;go_wp2;go_end0;exact⟨rfl,by rw[uh b];exact uh q,(((m.trans k2).trans k3).trans k4).trans k5⟩
theorem DZ(rb:Nat)(s:Bs)(i:Nat)(tb kt:Bool)(w:Wo)(h:zr rb s i tb kt w)(hi:i<=s.size):
  δ prog 174 #[rb] w fun e w'=>e=ε (.int .u8 (bt s i))/\zr rb s i tb kt w'/\KB rb w w':=by
 have c0:=h.text;have c1:=h.at;have H:=zb h;by_cases f:i=s.size
 .have b:((i:Int) ==(s.size:Int))=ξ:=by rw[yD];omega
  have a:=zb (YP s i om);go_in;go_wp2_with fail;go_quiet (fail);go_wp2;go_ret;exact⟨by rw[uh a];rfl,H.drewN _,(KB.refl rb w).drewN _⟩
 .have d:i<s.size:=om;have b:((i:Int) ==(s.size:Int))=ζ:=by rw[yd];omega
  have a:=zb (Zw s i d);go_in;go_wp2_with fail;go_quiet (fail);go_wp2_with fail;go_quiet (fail);go_wp2;go_ret;exact⟨by rw[uh a];rfl,(H.drewN _).drewN _,((KB.refl rb w).drewN _).drewN _⟩
theorem zgs(z:Int)(r:Nat)(hz:z=(r:Int))(w:Wo)(hr:r<=1114111):
  δ prog 207 #[ι κ z] w fun e w'=>e=ε (σ (ze (ZU r)))/\Below w w w':=by
 subst hz;exact MA r w hr
theorem Ev(c:UInt8):Α c.toNat=c:=Χ
def LD(c n r0:Nat):Prop:=1=n/\c<128/\c=r0∨2=n/\192<=c/\c<224/\c - 192=r0∨3=n/\224<=c/\c<240/\c - 224=r0∨4=n/\240<=c/\c<256/\c - 240=r0
def Ew(s:Bs)(i r0:Nat):Nat->Nat
 | 0=>r0
 | k+1=>Ew s i r0 k*64+(bt s (i+(k+1)) - 128)
def D1(s:Bs)(i r0 k z:Nat):Prop:=z=Ew s i r0 (k - 1)/\∀ j,1<=j->j<k->128<=bt s (i+j)/\bt s (i+j)<192
theorem Ez(h:LD (bt s i) n r0)(hb:s.size<i+n∨∃ k,1<=k/\k<n/\¬ (128<=bt s (i+k)/\bt s (i+k)<192))(hi:i<s.size):rl s i=0:=by
 unfold rl;rcases h with ⟨b,h,d⟩ |⟨b,h,a,d⟩ |⟨b,h,a,d⟩ |⟨b,h,a,d⟩<;>subst b d
 .omega
 .rw[Kz h a (qo _ _),yf];rcases hb with hb |⟨k,f,g,j⟩
  .omega
  .obtain rfl:k=1:=by omega
   omega
 .rw[KC h a (qo _ _) (qo _ _),yf];rcases hb with hb |⟨k,f,g,j⟩
  .omega
  .rcases (show k=1∨k=2 by omega)with rfl | rfl<;>omega
 .rw[KE h a (qo _ _) (qo _ _) (qo _ _),yf];rcases hb with hb |⟨k,f,g,j⟩
  .omega
  .rcases (show k=1∨k=2∨k=3 by omega)with rfl | rfl | rfl<;>omega
theorem zgt(s:Bs)(i n:Nat)(h:i+n<=s.size):(s.extract i (i+n)).toList.map ώ=(List.range n).map fun k=>bt s (i+k):=by
 apply List.ext_getElem
 .simp[ϋ];omega
 .intro k d a;simp only[yl,List.length_range]at a;have b:=Zw s (i+k) om;simp[ϋ,b];rfl
theorem zgu(hz:z<=1114111):∀ x∈qr z,x<256:=by
 unfold qr;repeat' split
 all_goals (simp;omega)
theorem zgv(hz:z<=1114111)(L:List UInt8):(ZU z ==L)=decide (qr z=L.map ώ):=by
 rw[ό,yD,decide_eq_true_iff];constructor
 .rintro rfl;unfold ZU;rw[ϊ];exact (List.map_id'' (fun x=>rfl) _).symm.trans (Υ fun x hx=>by
   show x=(Α x).toNat
   rw[Δ,Nat.mod_eq_of_lt (zgu hz x hx)])
 .intro e;unfold ZU;rw[e,ϊ];exact (Υ fun x _=>Ev x).trans (List.map_id'' (fun x=>rfl) _)
theorem zgw(h:LD (bt s i) n r0)(hn:i+n<=s.size)(ha:D1 s i r0 n z):
  rl s i=if (1114111<z∨55296<=z/\z<57344)∨¬ qr z=(List.range n).map fun k=>bt s (i+k)then 0 else n:=by
 obtain⟨rfl,d⟩:=ha;unfold rl;rcases h with ⟨hn,h,g⟩ |⟨hn,h,f,g⟩ |⟨hn,h,f,g⟩ |⟨hn,h,f,g⟩<;>subst hn g
 .rw[OH h];show _=if (1114111<bt s i∨55296<=bt s i/\bt s i<57344)∨¬ qr (bt s i)=[bt s i]then 0 else 1
  unfold qr;rw[yg h,yf so]
 .rw[Kz h f (qo _ _)];have c1:=d 1 om om;show _=if (1114111<(bt s i - 192)*64+(bt s (i+1) - 128)∨55296<=(bt s i - 192)*64+(bt s (i+1) - 128)/\(bt s i - 192)*64+(bt s (i+1) - 128)<57344)∨¬ qr ((bt s i - 192)*64+(bt s (i+1) - 128))=[bt s i,bt s (i+1)]then 0 else 2
  generalize bt s i=b0,bt s (i+1)=a at *;have e:qr ((b0 - 192)*64+(a - 128))=[b0,a]↔128<=(b0 - 192)*64+(a - 128):=by
   unfold qr;repeat' split
   all_goals (simp;omega)
  simp only[e];split<;>split<;>omega
 .rw[KC h f (qo _ _) (qo _ _)];have c1:=d 1 om om;have c2:=d 2 om om;show _=if (1114111<((bt s i - 224)*64+(bt s (i+1) - 128))*64+(bt s (i+2) - 128)∨55296<=((bt s i - 224)*64+(bt s (i+1) - 128))*64+(bt s (i+2) - 128)/\((bt s i - 224)*64+(bt s (i+1) - 128))*64+(bt s (i+2) - 128)<57344)∨¬ qr (((bt s i - 224)*64+(bt s (i+1) - 128))*64+(bt s (i+2) - 128))=[bt s i,bt s (i+1),bt s (i+2)]then 0 else 3
  generalize bt s i=b0,bt s (i+1)=a,bt s (i+2)=b at *;have e:qr (((b0 - 224)*64+(a - 128))*64+(b - 128))=[b0,a,b]↔2048<=((b0 - 224)*64+(a - 128))*64+(b - 128):=by
   unfold qr;repeat' split
   all_goals (simp;omega)
  simp only[e];split<;>split<;>omega
 .rw[KE h f (qo _ _) (qo _ _) (qo _ _)];have c1:=d 1 om om;have c2:=d 2 om om;have c3:=d 3 om om;show _=if (1114111<(((bt s i - 240)*64+(bt s (i+1) - 128))*64+(bt s (i+2) - 128))*64+(bt s (i+3) - 128)∨55296<=(((bt s i - 240)*64+(bt s (i+1) - 128))*64+(bt s (i+2) - 128))*64+(bt s (i+3) - 128)/\(((bt s i - 240)*64+(bt s (i+1) - 128))*64+(bt s (i+2) - 128))*64+(bt s (i+3) - 128)<57344)∨¬ qr ((((bt s i - 240)*64+(bt s (i+1) - 128))*64+(bt s (i+2) - 128))*64+(bt s (i+3) - 128))=[bt s i,bt s (i+1),bt s (i+2),bt s (i+3)]then 0 else 4
  generalize bt s i=b0,bt s (i+1)=a,bt s (i+2)=b,bt s (i+3)=j at *;have e:qr ((((b0 - 240)*64+(a - 128))*64+(b - 128))*64+(j - 128))=[b0,a,b,j]↔65536<=(((b0 - 240)*64+(a - 128))*64+(b - 128))*64+(j - 128):=by
   unfold qr;repeat' split
   all_goals (simp;omega)
  simp only[e];split<;>split<;>omega
theorem EA(s:Bs)(i:Nat)(w:Wo)(hi:i<s.size)(hs:s.size<=33554432):
  δ prog 204 #[s,ι κ i] w fun e w'=>e=ε (ι κ (rl s i))/\Below w w w':=by
 have hb:bt s i<256:=qo _ _;have S:=Zw s i hi;by_cases J:128<=bt s i/\bt s i<192
 .have B:Hid (rl s i=0):=RA J.1 J.2;have O:(128:Int)<=(s[i].toNat:Int):=om;have H:(s[i].toNat:Int)<192:=om;go_in;go_wp2;go_ret;exact⟨by rw[uh B];rfl,yI _ _⟩
 go_in;go_upto_if 15 with fail;go_cut [6,7]from 14 to 27 (fun nv rv wx=>∃ n o:Nat,nv=ι κ (n:Int)/\rv=ι κ (o:Int)/\Hid (LD (bt s i) n o)/\o<=127/\1<=n/\n<=4/\(1<n->o<32)/\w=wx)
 case first=>
  rcases (show bt s i<128∨192<=bt s i/\bt s i<224∨224<=bt s i/\bt s i<240∨240<=bt s i by omega)with h | h | h | h
  .have O:(s[i].toNat:Int)<128:=om;have f:Hid (LD (bt s i) 1 (bt s i)):=.inl ⟨rfl,h,rfl⟩;go_wp2;go_meet
   case rel=>exact⟨1,bt s i,rfl,by rw[S],f,om,om,om,om,rfl⟩
  .have O:(192:Int)<=(s[i].toNat:Int):=om;have H:(s[i].toNat:Int)<224:=om;have f:Hid (LD (bt s i) 2 (bt s i - 192)):=.inr (.inl ⟨rfl,h.1,h.2,rfl⟩);have v:Hid ((s[i].toNat:Int) - 192=((bt s i - 192:Nat):Int)):=by show _=_;omega
   go_wp2;go_meet
   case rel=>exact⟨2,_,rfl,by rw[uh v],f,om,om,om,om,rfl⟩
  .have O:(224:Int)<=(s[i].toNat:Int):=om;have H:(s[i].toNat:Int)<240:=om;have f:Hid (LD (bt s i) 3 (bt s i - 224)):=.inr (.inr (.inl ⟨rfl,h.1,h.2,rfl⟩));have v:Hid ((s[i].toNat:Int) - 224=((bt s i - 224:Nat):Int)):=by show _=_;omega
   go_wp2;go_meet
   case rel=>exact⟨3,_,rfl,by rw[uh v],f,om,om,om,om,rfl⟩
  .have O:(240:Int)<=(s[i].toNat:Int):=om;have f:Hid (LD (bt s i) 4 (bt s i - 240)):=.inr (.inr (.inr ⟨rfl,h,hb,rfl⟩));have v:Hid ((s[i].toNat:Int) - 240=((bt s i - 240:Nat):Int)):=by show _=_;omega
   go_wp2;go_meet
   case rel=>exact⟨4,_,rfl,by rw[uh v],f,om,om,om,om,rfl⟩
 obtain⟨n,o,rfl,rfl,f,W,U,hn4,X,rfl⟩:=hcut;obtain⟨E,hE⟩:∃ E:Nat,E=i+n:=⟨_,rfl⟩;have hEI:(i:Int)+(n:Int)=(E:Int):=om;have hEb:E<=33554440:=om;have F:=zb hE;clear hE;by_cases hlen:s.size<E
 .have B:=zb (Ez f (.inl (by have:=uh F;omega)) hi);have P:(s.size:Int)<(E:Int):=om;go_wp2;go_ret;exact⟨by rw[uh B];rfl,yI _ _⟩
 have P:¬ (s.size:Int)<(E:Int):=om;go_wp2;go_loop [7,8] (fun r k=>∃ K z:Nat,k=ι κ (K:Int)/\r=ι κ (z:Int)/\1<=K/\K<=n/\Hid (D1 s i o K z)/\(K=1/\z<=127/\(1<n->z<32)∨K=2/\z<2048∨K=3/\z<131072∨K=4/\z<8388608)) (fun _ k=>n - (intOf k).toNat)
 case atStart=>exact⟨1,o,rfl,rfl,om,U,⟨rfl,fun j h1 h2=>om⟩,.inl ⟨rfl,W,X⟩⟩
 case round=>
  obtain⟨K,z,rfl,rfl,R,hKn,D,C⟩:=hrel;have hz8:z<8388608:=om;by_cases y:K<n
  .have u1:((K:Int)<(n:Int))=True:=eq_true om;have hz3:z<131072:=om;obtain⟨q,g⟩:∃ q:Nat,q=i+K:=⟨_,rfl⟩;have hqI:(i:Int)+(K:Int)=(q:Int):=om;have V:q<s.size:=by have:=uh F;omega
   have A:=Zw s q V;by_cases I:128<=bt s q/\bt s q<192
   .have HN:Hid (D1 s i o (K+1) (z*64+(bt s q - 128))):=by
     obtain⟨G,N⟩:=uh D;obtain⟨k,rfl⟩:∃ k,K=k+1:=⟨K - 1,om⟩;refine⟨?_,fun j h1 h2=>?_⟩
     .rw[G,g];rfl
     .by_cases hj:j=k+1
      .rw[hj,← g];exact I
      .exact N j h1 om
    have v:Hid ((z:Int)*64+(s[q].toNat:Int) - 128=((z*64+(bt s q - 128):Nat):Int)):=by show _=_;omega
    have P:¬ (s[q].toNat:Int)<128:=om;have x2:¬ (192:Int)<=(s[q].toNat:Int):=om;have x3:decide ((s[q].toNat:Int)<128)=ζ:=so;have hz4:z*64+(bt s q - 128)<8388608:=om;have l:Hid (K+1=2/\z*64+(bt s q - 128)<2048∨K+1=3/\z*64+(bt s q - 128)<131072∨K+1=4/\z*64+(bt s q - 128)<8388608):=by show _∨_;omega
    clear g C A I;go_wp2;go_round
    case rel=>exact⟨K+1,z*64+(bt s q - 128),by go_num,by rw[← uh v],om,y,HN,.inr l⟩
    case measure=>simp[intOf];omega
   .have B:=zb (Ez f (.inr ⟨K,R,y,by rw[← g];exact I⟩) hi);rcases (show s[q].toNat<128∨192<=s[q].toNat from by omega)with hlow | T
    .have P:(s[q].toNat:Int)<128:=om;clear I g A;go_wp2;go_ret;exact⟨by rw[uh B];rfl,yI _ _⟩
    .have P:¬ (s[q].toNat:Int)<128:=om;have x2:(192:Int)<=(s[q].toNat:Int):=om;have x3:decide ((s[q].toNat:Int)<128)=ζ:=so;clear I g A;go_wp2;go_ret;exact⟨by rw[uh B];rfl,yI _ _⟩
  .have u1:((K:Int)<(n:Int))=False:=yR om;obtain rfl:K=n:=by omega
   have HR:=zb (zgw f (by have:=uh F;omega) D);rw[← zgt s i K (by have:=uh F;omega),← uh F]at HR;clear C y;have i1:(E:Int)<=(s.size:Int):=om;have i2:(i:Int)<=(E:Int):=om;have i3:(0:Int)<=(i:Int):=om;have u:Hid (z<=1114111->∀ d os,δ prog 207 #[ι κ z] (Sort.grow (redrawn w d) os) fun e w''=>e=ε (σ (ze (ZU z)))/\∃ p:Regrown,w''=Sort.grow (redrawn w p.d) p.os):=fun C d os=>Calls.regrown_of (zgs _ _ rfl _ C);obtain⟨q,g⟩:∃ q,((ze (ZU z)).toList ==(s.extract i E).toList)=q:=⟨_,rfl⟩;have M:Hid (z<=1114111->q=decide (qr z=(s.extract i E).toList.map ώ)):=fun C=>by rw[← g,ϋ,Zb,zgv C]
   generalize ze (ZU z)=us at *;go_upto_region 23 with fail;go_cut [83]from 63 to 83 (fun x wx=>∃ b:Bool,x=θ b/\Hid (rl s i=if b then 0 else K)/\Below w w wx)
   case first=>
    have a:Hid (∀ b:Bool,((1114111<z∨55296<=z/\z<57344)∨¬ qr z=(s.extract i E).toList.map ώ↔b=ξ)->rl s i=if b then 0 else K):=fun b h=>by
     rw[uh HR];cases b<;>simp[h]
    rcases (show 1114111<z∨z<=1114111/\55296<=z/\z<57344∨z<=1114111/\z<55296∨z<=1114111/\57344<=z by omega)with h | h | h | h
    case' inl=>
     have G:decide ((1114111:Int)<(z:Int))=ξ:=so;have y1:(1114111:Int)<(z:Int):=om;have l:=zb (uh a ξ ⟨fun _=>rfl,fun _=>.inl (.inl h)⟩)
    case' inr.inl=>
     have G:decide ((1114111:Int)<(z:Int))=ζ:=so;have N:decide ((55296:Int)<=(z:Int))=ξ:=so;have e3:decide ((z:Int)<(57344:Int))=ξ:=so;have y1:¬ (1114111:Int)<(z:Int):=om;have y2:(55296:Int)<=(z:Int):=om;have l:=zb (uh a ξ ⟨fun _=>rfl,fun _=>.inl (.inr h.2)⟩)
    case' inr.inr.inl=>
     have G:decide ((1114111:Int)<(z:Int))=ζ:=so;have N:decide ((55296:Int)<=(z:Int))=ζ:=so;have y1:¬ (1114111:Int)<(z:Int):=om;have y2:(z:Int)<(55296:Int):=om;have u:=zb (uh u h.1);have l:=zb (uh a (!q) (by rw[uh M h.1];simp;omega))
     cases q
    case' inr.inr.inr=>
     have G:decide ((1114111:Int)<(z:Int))=ζ:=so;have N:decide ((55296:Int)<=(z:Int))=ξ:=so;have e3:decide ((z:Int)<(57344:Int))=ζ:=so;have y1:¬ (1114111:Int)<(z:Int):=om;have y2:(55296:Int)<=(z:Int):=om;have y3:¬ (z:Int)<(57344:Int):=om;have u:=zb (uh u h.1);have l:=zb (uh a (!q) (by rw[uh M h.1];simp;omega))
     cases q
    all_goals
     clear h M a HR;refine wp_region_quiet_below kr kr ?_
     repeat (first | go_big_quiet_step ((go_at_call 207;exact uh u _ _)) | quiet_step ((go_at_call 207;exact uh u _ _)))
     refine wpQuiet_nil ?_;intro _ Y;obtain⟨⟨dq,Z⟩,L⟩:=Y;subst L;go_wp2_with fail;go_meet
     case rel=>exact⟨_,rfl,l,below_regrown w dq Z⟩
   obtain⟨b,rfl,l,m⟩:=hcut;have Q:=zb m;clear HR u M g m
   cases b<;>(go_wp2;go_ret;exact⟨by rw[uh l];rfl,Q⟩)
theorem EB(s:Bs)(i:Nat):Lib.decodeL (s.data.toList.drop i)=Η (s.size - i) (bt s i) (bt s (i+1)) (bt s (i+2)) (bt s (i+3)):=by
 rw[Lib.decodeL_drop,Vb]
theorem zgx(n b0 b1 b2 b3:Nat)(hn:1<=n):JG n b0 b1 b2 b3<=n:=by
 unfold JG;split
 .exact hn
 .split
  .omega
  .unfold Η
   repeat' split
   all_goals first | omega |(simp only[];omega)
theorem EC(h:JG n b0 b1 b2 b3=0):Η n b0 b1 b2 b3=(65533,1):=by
 unfold JG at h;split at h
 .omega
 .split at h
  .rename_i h1 a;revert a;unfold Η
   repeat' split
   all_goals first |(intro a;rfl) |(intro a;simp at a;done) |(intro a;exfalso;omega)
  .have:=Lib.decodeN_ge1 n b0 b1 b2 b3;omega
theorem D2(h:¬ JG n b0 b1 b2 b3=0):(Η n b0 b1 b2 b3).2=JG n b0 b1 b2 b3/\¬ ((Η n b0 b1 b2 b3).1=65533/\(Η n b0 b1 b2 b3).2=1):=by
 unfold JG at h ⊢;split at h
 .rename_i h1;rw[yg h1];have e:Η n b0 b1 b2 b3=(b0,1):=by unfold Η;rw[yg h1]
  rw[e];exact⟨rfl,fun hh=>by have:=hh.1;simp at this;omega⟩
 .rename_i h1;rw[yf h1];split at h
  .exact absurd rfl h
  .rename_i h2;rw[yf h2];exact⟨rfl,fun hh=>h2 hh.2⟩
theorem U1(s:Bs)(i:Nat)(hi:i<s.size):i+rl s i<=s.size:=by
 have:=zgx (s.size - i) (bt s i) (bt s (i+1)) (bt s (i+2)) (bt s (i+3)) om;unfold rl;omega
theorem ED(s:Bs)(i:Nat)(hi:i<s.size):s.data.toList.drop i≠[]:=by rw[QT s i hi];simp
theorem D3(s:Bs)(i:Nat)(hi:i<s.size)(h:rl s i=0):Γ (s.data.toList.drop i)=ζ:=by
 rw[Lib.validD_step _ (ED s i hi),EB,EC h];rfl
theorem Pb(s:Bs)(i:Nat)(hi:i<s.size)(h:¬ rl s i=0):Γ (s.data.toList.drop i)=Γ (s.data.toList.drop (i+rl s i)):=by
 obtain⟨a,b⟩:=D2 h;rw[Lib.validD_step _ (ED s i hi),EB,yf b,a,Ϗ];rfl
theorem zgy(s:Bs)(i:Nat)(hi:i<s.size)(h1:i+1<s.size):(s.data.toList.drop i).take 2=[s[i],s[i+1]]:=by
 rw[QT s i hi,QT s (i+1) h1];rfl
theorem zgz(s:Bs)(i:Nat)(hi:i<s.size)(h1:i+1<s.size)(h2:i+2<s.size):(s.data.toList.drop i).take 3=[s[i],s[i+1],s[i+2]]:=by
 rw[QT s i hi,QT s (i+1) h1,QT s (i+2) h2];rfl
theorem zgA(s:Bs)(i:Nat)(hi:i<s.size)(h1:i+1<s.size)(h2:i+2<s.size)(h3:i+3<s.size):(s.data.toList.drop i).take 4=[s[i],s[i+1],s[i+2],s[i+3]]:=by
 rw[QT s i hi,QT s (i+1) h1,QT s (i+2) h2,QT s (i+3) h3];rfl
theorem JC(c:UInt8)(x:Int)(h:x=(c.toNat:Int)):x.toNat.toUInt8=c:=by
 subst h;rw[Int.toNat_natCast];exact Χ
theorem W6(s:Bs)(i:Nat)(hi:i<s.size)(hv:¬ rl s i=0)(h8:¬ s[i].toNat<128):
  Θ ((Utf8.decode s i).1:Nat)=(s.data.toList.drop i).take (rl s i)/\(∀ c∈(s.data.toList.drop i).take (rl s i),128<=c.toNat)/\128<=(Utf8.decode s i).1/\(Utf8.decode s i).2=rl s i:=by
 have a:=Zw s i hi;have w:(Utf8.decode s i).2=rl s i:=by rw[Vb];exact (D2 hv).1
 have j:192<=s[i].toNat:=by
  rcases Nat.lt_or_ge s[i].toNat 192 with h | h
  .exact absurd (show rl s i=0 by unfold rl;rw[RA (by rw[a];omega) (by rw[a];exact h)]) hv
  .exact h
 by_cases q:s[i].toNat<224
 .have e:=Kz (n:=s.size - i) (b0:=bt s i) (b1:=bt s (i+1)) (b2:=bt s (i+2)) (b3:=bt s (i+3)) (by rw[a];exact j) (by rw[a];exact q) (qo _ _);change rl s i=_ at e;by_cases b:2<=s.size - i/\128<=bt s (i+1)/\bt s (i+1)<192/\128<=(bt s i - 192)*64+(bt s (i+1) - 128)
  .rw[yg b]at e;obtain⟨c1,c2,c3,c4⟩:=b;have f:i+1<s.size:=om;have b1:=Zw s (i+1) f;have g:Utf8.decode s i=(bt s i % 32*64+bt s (i+1) % 64,2):=by
    rw[Vb];unfold Η;rw[yf om,yg ⟨om,om,om⟩,yg om]
   rw[e,g,zgy s i hi f];refine⟨?_,?_,by simp only;omega,rfl⟩
   .unfold Θ;rw[Lib.encodeRuneZ_two (by simp only;omega) (by simp only;omega)];simp only[yi,Ν];rw[JC s[i] _ om,JC s[i+1] _ om]
   .intro c b;simp at b;rcases b with rfl | rfl<;>omega
  .rw[yf b]at e;exact absurd e hv
 .by_cases r:s[i].toNat<240
  .have e:=KC (n:=s.size - i) (b0:=bt s i) (b1:=bt s (i+1)) (b2:=bt s (i+2)) (b3:=bt s (i+3)) (by rw[a];omega) (by rw[a];exact r) (qo _ _) (qo _ _);change rl s i=_ at e;split at e
   .rename_i b;obtain⟨c1,c2,c3,c4,m,o,p⟩:=b;have f:i+1<s.size:=om;have d:i+2<s.size:=om;have b1:=Zw s (i+1) f;have b2:=Zw s (i+2) d;have g:Utf8.decode s i=(bt s i % 16*4096+bt s (i+1) % 64*64+bt s (i+2) % 64,3):=by
     rw[Vb];unfold Η;rw[yf om,yf om,yg ⟨om,⟨om,om⟩,om,om⟩,yg om]
    rw[e,g,zgz s i hi f d];refine⟨?_,?_,by simp only;omega,rfl⟩
    .unfold Θ;rw[Lib.encodeRuneZ_three (by simp only;omega)];simp only[yi,Ν];rw[JC s[i] _ om,JC s[i+1] _ om,JC s[i+2] _ om]
    .intro c b;simp at b;rcases b with rfl | rfl | rfl<;>omega
   .exact absurd e hv
  .have l:s[i].toNat<256:=UInt8.toNat_lt _;have e:=KE (n:=s.size - i) (b0:=bt s i) (b1:=bt s (i+1)) (b2:=bt s (i+2)) (b3:=bt s (i+3)) (by rw[a];omega) (by rw[a];exact l) (qo _ _) (qo _ _) (qo _ _);change rl s i=_ at e;split at e
   .rename_i b;obtain⟨c1,c2,c3,c4,m,o,p,u,v⟩:=b;have f:i+1<s.size:=om;have d:i+2<s.size:=om;have k:i+3<s.size:=om;have b1:=Zw s (i+1) f;have b2:=Zw s (i+2) d;have b3:=Zw s (i+3) k;have g:Utf8.decode s i=(bt s i % 8*262144+bt s (i+1) % 64*4096+bt s (i+2) % 64*64+bt s (i+3) % 64,4):=by
     rw[Vb];unfold Η;rw[yf om,yf om,yf om,yg ⟨om,⟨om,om⟩,⟨om,om⟩,om,om⟩,yg om]
    rw[e,g,zgA s i hi f d k];refine⟨?_,?_,by simp only;omega,rfl⟩
    .unfold Θ;rw[Lib.encodeRuneZ_four (by simp only;omega) (by simp only;omega)];simp only[yi,Ν];rw[JC s[i] _ om,JC s[i+1] _ om,JC s[i+2] _ om,JC s[i+3] _ om]
    .intro c b;simp at b;rcases b with rfl | rfl | rfl | rfl<;>omega
   .exact absurd e hv
def hx(b:Nat):Option Nat:=if 48<=b/\b<=57 then η (b - 48)else if 97<=b/\b<=102 then η (b - 87)else if 65<=b/\b<=70 then η (b - 55)else ν
theorem D4{b:Nat}(h:hx b=η v):v<16:=by
 unfold hx at h
 repeat' split at h
 all_goals first |(injection h with h;omega) | cases h
def Qn(s:Bs)(i:Nat):Nat->Option Nat
 | 0=>η 0
 | k+1=>(Qn s i k).bind fun v=>(hx (bt s (i+k))).map fun h=>v*16+h
theorem Pc(s:Bs)(i:Nat):∀ (k v:Nat),Qn s i k=η v->v<16 ^ k
 | 0,v,h=>by injection h with h;omega
 | k+1,v,h=>by
  simp only[Qn,Β,yA]at h;obtain⟨u,hu,y,hy,rfl⟩:=h;have:=Pc s i k u hu;have:=D4 hy;rw[Nat.pow_succ];omega
theorem Xz{h:Nat}(hv:Qn s i k=η v)(hh:hx (bt s (i+k))=η h):Qn s i (k+1)=η (v*16+h):=by simp[Qn,hv,hh]
theorem Pd(hh:hx (bt s (i+k))=ν):Qn s i (k+1)=ν:=by simp[Qn,hh]
theorem D5{m:Nat}(h:Qn s i k=ν)(hm:k<=m):Qn s i m=ν:=by
 induction m with
 | zero => have : k = 0 := by omega
           subst this;exact h
 | succ m ih=>
  rcases Nat.lt_or_ge m k with g | g
  .have:k=m+1:=om;subst this;exact h
  .simp[Qn,ih g]
theorem EE(h:Qn s i (k+1)=η v):i+k<s.size:=by
 refine Zf fun e=>?_;have:=Pd (s:=s) (i:=i) (k:=k) (by rw[e];rfl);rw[this]at h;cases h
def JX(b:Nat):Option Nat:=if b=34 then η 34 else if b=92 then η 92 else if b=47 then η 47 else if b=98 then η 8 else if b=102 then η 12 else if b=110 then η 10 else if b=114 then η 13 else if b=116 then η 9 else ν
theorem D6{b:Nat}(h:JX b=η v):v<128:=by
 unfold JX at h
 repeat' split at h
 all_goals first |(injection h with h;omega) | cases h
def QN(s:Bs)(i:Nat):Option Nat:=if bt s i=92/\bt s (i+1)=117 then Qn s (i+2) 4 else ν
theorem EF(h:QN s i=η u):u<65536:=by
 unfold QN at h;split at h
 .exact Pc s (i+2) 4 u h
 .cases h
theorem D7(h:QN s i=η u):i+6<=s.size:=by
 unfold QN at h;split at h
 .have:=EE h;omega
 .cases h
def Qt(s:Bs)(i u:Nat):Option (Nat×Nat):=
 if u<55296∨57344<=u then η (u,6)else if 56320<=u then ν else
 (QN s (i+6)).bind fun v=>if 56320<=v/\v<57344 then η (65536+(u - 55296)*1024+(v - 56320),12)else ν
def Jt(s:Bs)(i:Nat):Option (Nat×Nat):=
 match JX (bt s (i+1))with
 | some v=>η (v,2)
 | none=>(QN s i).bind (Qt s i)
def piece(s:Bs)(i:Nat):Option (Nat×Nat):=
 if bt s i=92 then Jt s i else if bt s i<32 then ν else if bt s i<128 then η (bt s i,1)
 else if rl s i=0 then ν else η ((Utf8.decode s i).1,rl s i)
theorem zgB(hu:u<65536)(hi:i+6<=s.size)(h:Qt s i u=η (r,n)):i+n<=s.size/\1<=n/\r<=1114111/\(r<55296∨57344<=r):=by
 unfold Qt at h;split at h
 .injection h with h;injection h with h1 h2;omega
 .split at h
  .cases h
  .simp only[Β]at h;obtain⟨v,a,h⟩:=h;have:=D7 a;split at h
   .injection h with h;injection h with h1 h2;omega
   .cases h
theorem zgC(h:JX (bt s i)=η v):i<s.size:=Zf fun e=>by rw[e]at h;cases h
theorem EG(h:Jt s i=η (r,n)):i+n<=s.size/\1<=n/\r<=1114111/\(r<55296∨57344<=r):=by
 unfold Jt at h;split at h
 .rename_i v hv;injection h with h;injection h with h1 h2;have:=zgC hv;have:=D6 hv;omega
 .simp only[Β]at h;obtain⟨u,a,h⟩:=h;exact zgB (EF a) (D7 a) h
theorem Pe(h:r<=1114111)(h':r<55296∨57344<=r):ZU r=Θ (r:Int):=by
 unfold ZU qr Θ;split
 .rw[Lib.encodeRuneZ_one om om];simp only[yi,Ν,List.cons.injEq,and_true];exact (JC _ _ (by rw[Δ];omega)).symm
 .split
  .rw[Lib.encodeRuneZ_two om om];simp only[yi,Ν];rw[JC (Α (192+r / 64)) _ (by rw[Δ];omega),JC (Α (128+r % 64)) _ (by rw[Δ];omega)]
  .split
   .rw[Lib.encodeRuneZ_three om];simp only[yi,Ν];rw[JC (Α (224+r / 4096)) _ (by rw[Δ];omega),JC (Α (128+r / 64 % 64)) _ (by rw[Δ];omega),JC (Α (128+r % 64)) _ (by rw[Δ];omega)]
   .rw[Lib.encodeRuneZ_four om om];simp only[yi,Ν];rw[JC (Α (240+r / 262144)) _ (by rw[Δ];omega),JC (Α (128+r / 4096 % 64)) _ (by rw[Δ];omega),JC (Α (128+r / 64 % 64)) _ (by rw[Δ];omega),JC (Α (128+r % 64)) _ (by rw[Δ];omega)]
def enc(r:Nat):List UInt8:=Θ (r:Int)
theorem FN(r:Nat):(enc r).length<=4:=by
 have:=Lib.encodeRuneZ_length r;simp[enc,Θ];omega
theorem EH(s:Bs)(i:Nat):(Utf8.decode s i).1<=1114111:=by
 rw[Vb];exact Lib.decodeN_rune_le _ _ _ _ _ (qo s i)
theorem Wr(h:piece s i=η (r,n)):i+n<=s.size/\1<=n/\r<=1114111:=by
 unfold piece at h;split at h
 .have:=EG h;omega
 .split at h
  .cases h
  .have a:i<s.size:=Zf om;split at h
   .injection h with h;injection h with h1 h2;omega
   .split at h
    .cases h
    .injection h with h;injection h with h1 h2;have:=U1 s i a;have:=EH s i;omega
theorem D8(h:s.size<=i):piece s i=ν:=by
 unfold piece;rw[YP s i h];rfl
def Ws(s:Bs):Nat->Nat->Option (List UInt8×Nat)
 | 0,_=>ν
 | f+1,i=>if bt s i=34 then η ([],i+1)else (piece s i).bind fun p=>(Ws s f (i+p.2)).map fun q=>(enc p.1++q.1,q.2)
def qT(s:Bs)(i:Nat):Option (List UInt8×Nat):=Ws s (s.size+1 - i) i
theorem EI(s:Bs)(f i:Nat)(h:s.size<=i):Ws s f i=ν:=by
 cases f with
 | zero=>rfl
 | succ f=>simp[Ws,YP s i h,D8 h]
theorem D9(s:Bs):∀ (f g i:Nat),s.size<=i+f->s.size<=i+g->Ws s f i=Ws s g i
 | 0,g,i,h,_=>by rw[EI s g i om];rfl
 | f+1,0,i,_,h=>by rw[EI s (f+1) i om];rfl
 | f+1,g+1,i,hf,hg=>by
  rw[Ws,Ws];split
  .rfl
  .cases hp:piece s i with
   | none=>rfl
   | some p=>
    obtain⟨r,n⟩:=p;have:=Wr hp;simp only[yB];rw[D9 s f g (i+n) om om]
theorem La(s:Bs)(i:Nat):qT s i=if bt s i=34 then η ([],i+1)else (piece s i).bind fun p=>(qT s (i+p.2)).map fun q=>(enc p.1++q.1,q.2):=by
 unfold qT;rw[D9 s (s.size+1 - i) (s.size+1) i om om,Ws];split
 .rfl
 .cases hp:piece s i with
  | none=>rfl
  | some p=>
   obtain⟨r,n⟩:=p;simp only[yB];rw[D9 s s.size (s.size+1 - (i+n)) (i+n) om om]
theorem W7(h:bt s i=34):qT s i=η ([],i+1):=by rw[La,yg h]
theorem Wt(h:bt s i≠34)(hp:piece s i=η (r,n)):qT s i=(qT s (i+n)).map fun q=>(enc r++q.1,q.2):=by rw[La,yf h,hp];rfl
theorem W8(h:bt s i≠34)(hp:piece s i=ν):qT s i=ν:=by rw[La,yf h,hp];rfl
theorem zgD(h:s.size<=i):qT s i=ν:=W8 (by rw[YP s i h];decide) (D8 h)
theorem EJ(h0:bt s i=92)(h1:bt s (i+1)=117):Jt s i=(Qn s (i+2) 4).bind (Qt s i):=by
 unfold Jt QN;rw[yg ⟨h0,h1⟩,h1];rfl
theorem GC{b:Nat}(h1:bt s (i+1)=b)(hv:JX b=η v):Jt s i=η (v,2):=by
 unfold Jt;rw[h1,hv]
theorem EK{b:Nat}(h1:bt s (i+1)=b)(hv:JX b=ν)(hu:b≠117):Jt s i=ν:=by
 unfold Jt QN;rw[h1,hv,yf (fun h=>hu h.2)];rfl
def ZS(s:Bs)(i:Nat):Option (List UInt8×Nat):=if bt s i=34 then qT s (i+1)else ν
def VM(rb:Nat)(s:Bs)(tb kt:Bool)(w:Wo)(o:Option (ω×Nat))(e:Ending)(w':Wo):Prop:=
 KB rb w w'/\o.elim (e=JW) fun p=>e=ε p.1/\zr rb s p.2 tb kt w'
mutual
inductive JV where
 | nul | tt | ff
 | num (l:List UInt8)
 | str (l:List UInt8)
 | arr (l:JL)
 | obj (m:JM)
inductive JL where
 | nil
 | cons (v:JV) (r:JL)
inductive JM where
 | nil
 | cons (k:List UInt8) (v:JV) (r:JM)
end
def GD(s:Bs):Nat->Nat->Nat
 | 0,i=>i
 | f+1,i=>if zS (bt s i)=ξ then GD s f (i+1)else i
def dg(s:Bs)(i:Nat):Nat:=GD s (s.size - i) i
theorem Wu(h:zS (bt s i)=ξ):dg s i=dg s (i+1):=by
 have a:i<s.size:=Zf (by have:=QU.1 h;omega);unfold dg;rw[show s.size - i=(s.size - (i+1))+1 by omega,GD,yg h]
theorem XA(h:¬ zS (bt s i)=ξ):dg s i=i:=by
 unfold dg
 cases s.size - i with
 | zero=>rfl
 | succ f=>rw[GD,yf h]
theorem EL(s:Bs):∀ f i,i+f<=s.size->i<=GD s f i/\GD s f i<=i+f
 | 0,i,_=>⟨ye _,ye _⟩
 | f+1,i,h=>by
  rw[GD];split
  .have:=EL s f (i+1) om;omega
  .omega
theorem Pf(h:i<=s.size):i<=dg s i/\dg s i<=s.size:=by
 have:=EL s (s.size - i) i om;unfold dg;omega
def Zr(s:Bs)(i j:Nat):List UInt8:=(s.data.toList.drop i).take (j - i)
def Za(s:Bs)(i:Nat):Nat:=if bt s i=45 then i+1 else i
def qJ(s:Bs)(i:Nat):Nat:=if bt s (Za s i)=48 then Za s i+1 else dg s (Za s i)
def QE(l:List UInt8):List UInt8:=if l=[45,48]then [48]else l
def nm(s:Bs)(i:Nat):Option (List UInt8×Nat):=if zS (bt s (Za s i))=ξ then η (QE (Zr s i (qJ s i)),qJ s i)else ν
theorem FP(h:nm s i=η (l,j)):i<j/\j<=s.size:=by
 unfold nm at h;split at h
 .rename_i hd;injection h with h;injection h with h1 h2;subst h2;have b:Za s i<s.size:=Zf (by have:=QU.1 hd;omega);have a:i<=Za s i:=by unfold Za;split<;>omega
  unfold qJ;split
  .omega
  .rw[Wu hd];have:=Pf (s:=s) (i:=Za s i+1) om;omega
 .cases h
theorem zgE:∀ {i j:Nat} {l:List UInt8},qT s i=η (l,j)->i<j/\j<=s.size:=by
 intro i;generalize hn:s.size - i=n;induction n using Nat.strongRecOn generalizing i with
 | _ n ih=>
  intro j l h;by_cases a:bt s i=34
  .rw[W7 a]at h;injection h with h;injection h with h1 h2;have:=Zf (s:=s) (i:=i) om;omega
  .cases hp:piece s i with
   | none=>rw[W8 a hp]at h;cases h
   | some p=>
    obtain⟨r,b⟩:=p;have d:=Wr hp;rw[Wt a hp]at h;rcases hq:qT s (i+b)with _ |⟨g,f⟩
    .rw[hq]at h;cases h
    .rw[hq]at h;injection h with h;injection h with h1 h2;have:=ih (s.size - (i+b)) om rfl hq;omega
theorem Yu(h:ZS s i=η (l,j)):i+1<j/\j<=s.size:=by
 unfold ZS at h;split at h
 .have:=zgE h;omega
 .cases h
def Ju(s:Bs)(i:Nat):Bool:=bt s i ==110 && bt s (i+1) ==117 && bt s (i+2) ==108 && bt s (i+3) ==108
def JD(s:Bs)(i:Nat):Bool:=bt s i ==116 && bt s (i+1) ==114 && bt s (i+2) ==117 && bt s (i+3) ==101
def JY(s:Bs)(i:Nat):Bool:=bt s i ==102 && bt s (i+1) ==97 && bt s (i+2) ==108 && bt s (i+3) ==115 && bt s (i+4) ==101
mutual
def pv(s:Bs):Nat->Nat->Option (JV×Nat)
 | 0,_=>ν
 | f+1,i=>
  if bt s i=91 then (if bt s (sk s (i+1))=93 then η (.arr .nil,sk s (i+1)+1)else (pa s f (sk s (i+1))).map fun q=>(.arr q.1,q.2))
  else if bt s i=123 then (if bt s (sk s (i+1))=125 then η (.obj .nil,sk s (i+1)+1)else (po s f (sk s (i+1))).map fun q=>(.obj q.1,q.2))
  else if bt s i=34 then (ZS s i).map fun q=>(.str q.1,q.2)
  else if Ju s i=ξ then η (.nul,i+4)
  else if JD s i=ξ then η (.tt,i+4)
  else if JY s i=ξ then η (.ff,i+5)
  else (nm s i).map fun q=>(.num q.1,q.2)
def pa(s:Bs):Nat->Nat->Option (JL×Nat)
 | 0,_=>ν
 | f+1,i=>(pv s f i).bind fun q=>
  if bt s (sk s q.2)=93 then η (.cons q.1 .nil,sk s q.2+1)
  else if bt s (sk s q.2)=44 then (pa s f (sk s (sk s q.2+1))).map fun r=>(.cons q.1 r.1,r.2)
  else ν
def po(s:Bs):Nat->Nat->Option (JM×Nat)
 | 0,_=>ν
 | f+1,i=>(ZS s i).bind fun k=>
  if bt s (sk s k.2)=58 then (pv s f (sk s (sk s k.2+1))).bind fun q=>
   if bt s (sk s q.2)=125 then η (.cons k.1 q.1 .nil,sk s q.2+1)
   else if bt s (sk s q.2)=44 then (po s f (sk s (sk s q.2+1))).map fun r=>(.cons k.1 q.1 r.1,r.2)
   else ν
  else ν
end
theorem Zd(s:Bs)(i:Nat):i<=sk s i:=by
 rcases Nat.le_total i s.size with h | h
 .exact (JB h).1
 .rw[Pa h];exact ye _
theorem XB(h:Ju s i=ξ):i+4<=s.size:=by
 simp[Ju]at h;have:=Zf (s:=s) (i:=i+3) om;omega
theorem XC(h:JD s i=ξ):i+4<=s.size:=by
 simp[JD]at h;have:=Zf (s:=s) (i:=i+3) om;omega
theorem FQ(h:JY s i=ξ):i+5<=s.size:=by
 simp[JY]at h;have:=Zf (s:=s) (i:=i+4) om;omega
theorem QX(s:Bs):∀ f i,(∀ v j,pv s f i=η (v,j)->i<j/\j<=s.size)/\(∀ l j,pa s f i=η (l,j)->i<j/\j<=s.size)/\(∀ m j,po s f i=η (m,j)->i<j/\j<=s.size)
 | 0,i=>⟨fun v j h=>by simp[pv]at h,fun v j h=>by simp[pa]at h,fun v j h=>by simp[po]at h⟩
 | f+1,i=>by
  refine⟨fun v j h=>?_,fun l j h=>?_,fun m j h=>?_⟩
  .rw[pv]at h;have g:=Zd s (i+1);split at h
   .split at h
    .have:=Zf (s:=s) (i:=sk s (i+1)) om;injection h with h;injection h with _ h;omega
    .simp only[yA]at h;obtain⟨⟨l,k⟩,b,h⟩:=h;injection h with _ h;have:=(QX s f (sk s (i+1))).2.1 l k b;simp only at h;omega
   .split at h
    .split at h
     .have:=Zf (s:=s) (i:=sk s (i+1)) om;injection h with h;injection h with _ h;omega
     .simp only[yA]at h;obtain⟨⟨l,k⟩,b,h⟩:=h;injection h with _ h;have:=(QX s f (sk s (i+1))).2.2 l k b;simp only at h;omega
    .split at h
     .simp only[yA]at h;obtain⟨⟨l,k⟩,b,h⟩:=h;injection h with _ h;have:=Yu b;simp only at h;omega
     .split at h
      .rename_i hw;have:=XB hw;injection h with h;injection h with _ h;omega
      .split at h
       .rename_i hw;have:=XC hw;injection h with h;injection h with _ h;omega
       .split at h
        .rename_i hw;have:=FQ hw;injection h with h;injection h with _ h;omega
        .simp only[yA]at h;obtain⟨⟨l,k⟩,b,h⟩:=h;injection h with _ h;have:=FP b;simp only at h;omega
  .rw[pa]at h;simp only[Β]at h;obtain⟨⟨v,k⟩,b,h⟩:=h;have q:=(QX s f i).1 v k b;have o:=Zd s k;simp only at h;split at h
   .have:=Zf (s:=s) (i:=sk s k) om;injection h with h;injection h with _ h;omega
   .split at h
    .simp only[yA]at h;obtain⟨⟨l,n⟩,d,h⟩:=h;injection h with _ h;have:=(QX s f _).2.1 l n d;have p:=Zd s (sk s k+1);simp only at h;omega
    .cases h
  .rw[po]at h;simp only[Β]at h;obtain⟨⟨u,a⟩,r,h⟩:=h;have y:=Yu r;simp only at h;split at h
   .simp only[Β]at h;obtain⟨⟨v,k⟩,b,h⟩:=h;have q:=(QX s f _).1 v k b;have w:=Zd s a;have x:=Zd s (sk s a+1);have o:=Zd s k;simp only at h;split at h
    .have:=Zf (s:=s) (i:=sk s k) om;injection h with h;injection h with _ h;omega
    .split at h
     .simp only[yA]at h;obtain⟨⟨l,n⟩,d,h⟩:=h;injection h with _ h;have:=(QX s f _).2.2 l n d;have p:=Zd s (sk s k+1);simp only at h;omega
     .cases h
   .cases h
theorem VN(s:Bs):∀ f g i,(2*(s.size - i)+1<=f->2*(s.size - i)+1<=g->pv s f i=pv s g i)/\(2*(s.size - i)+2<=f->2*(s.size - i)+2<=g->pa s f i=pa s g i/\po s f i=po s g i)
 | 0,g,i=>⟨fun h _=>om,fun h _=>om⟩
 | f+1,0,i=>⟨fun _ h=>om,fun _ h=>om⟩
 | f+1,g+1,i=>by
  refine⟨fun hf hg=>?_,fun hf hg=>⟨?_,?_⟩⟩
  .rw[pv,pv];have g0:=Zd s (i+1);by_cases c1:bt s i=91
   .have l:=Zf (s:=s) (i:=i) om;rw[yg c1,yg c1,((VN s f g (sk s (i+1))).2 om om).1]
   .rw[yf c1,yf c1];by_cases c2:bt s i=123
    .have l:=Zf (s:=s) (i:=i) om;rw[yg c2,yg c2,((VN s f g (sk s (i+1))).2 om om).2]
    .rw[yf c2,yf c2]
  .rw[pa,pa,(VN s f g i).1 om om]
   cases hk:pv s g i with
   | none=>rfl
   | some q=>
    obtain⟨v,k⟩:=q;have j:=(QX s g i).1 v k hk;have b:=Zd s k;have d:=Zd s (sk s k+1);simp only[yB];rw[((VN s f g (sk s (sk s k+1))).2 om om).1]
  .rw[po,po]
   cases ha:ZS s i with
   | none=>rfl
   | some q=>
    obtain⟨m,a⟩:=q;have p:=Yu ha;have n:=Zd s a;have o:=Zd s (sk s a+1);simp only[yB];rw[(VN s f g (sk s (sk s a+1))).1 om om]
    cases hk:pv s g (sk s (sk s a+1))with
    | none=>rfl
    | some q=>
     obtain⟨v,k⟩:=q;have j:=(QX s g _).1 v k hk;have b:=Zd s k;have d:=Zd s (sk s k+1);simp only[yB];rw[((VN s f g (sk s (sk s k+1))).2 om om).2]
def val(s:Bs)(i:Nat):Option (JV×Nat):=pv s (2*(s.size - i)+1) i
def elems(s:Bs)(i:Nat):Option (JL×Nat):=pa s (2*(s.size - i)+2) i
def QY(s:Bs)(i:Nat):Option (JM×Nat):=po s (2*(s.size - i)+2) i
theorem VO{v:JV}(h:val s i=η (v,j)):i<j/\j<=s.size:=(QX s _ i).1 v j h
theorem Pg(h:bt s i=91):val s i=if bt s (sk s (i+1))=93 then η (.arr .nil,sk s (i+1)+1)else (elems s (sk s (i+1))).map fun q=>(.arr q.1,q.2):=by
 have a:=Zf (s:=s) (i:=i) om;have g:=Zd s (i+1);unfold val elems;rw[pv,yg h,((VN s (2*(s.size - i)) (2*(s.size - sk s (i+1))+2) (sk s (i+1))).2 om om).1]
theorem Ph(h:bt s i=123):val s i=if bt s (sk s (i+1))=125 then η (.obj .nil,sk s (i+1)+1)else (QY s (sk s (i+1))).map fun q=>(.obj q.1,q.2):=by
 have a:=Zf (s:=s) (i:=i) om;have g:=Zd s (i+1);unfold val QY;rw[pv,yf om,yg h,((VN s (2*(s.size - i)) (2*(s.size - sk s (i+1))+2) (sk s (i+1))).2 om om).2]
theorem Lb(h:bt s i=34):val s i=(ZS s i).map fun q=>(.str q.1,q.2):=by
 unfold val;rw[pv,yf om,yf om,yg h]
theorem Wv(h1:bt s i≠91)(h2:bt s i≠123)(h3:bt s i≠34):val s i=
  if Ju s i=ξ then η (.nul,i+4)else if JD s i=ξ then η (.tt,i+4)else if JY s i=ξ then η (.ff,i+5)else (nm s i).map fun q=>(.num q.1,q.2):=by
 unfold val;rw[pv,yf h1,yf h2,yf h3]
theorem U2(s:Bs)(i:Nat):elems s i=(val s i).bind fun q=>
  if bt s (sk s q.2)=93 then η (.cons q.1 .nil,sk s q.2+1)
  else if bt s (sk s q.2)=44 then (elems s (sk s (sk s q.2+1))).map fun r=>(.cons q.1 r.1,r.2)
  else ν:=by
 have e:elems s i=pa s (2*(s.size - i)+1+1) i:=rfl;rw[e,pa];show (val s i).bind _=_
 cases hk:val s i with
 | none=>rfl
 | some q=>
  obtain⟨v,k⟩:=q;have d:=VO hk;have a:=Zd s k;have b:=Zd s (sk s k+1);simp only[yB];rw[show elems s (sk s (sk s k+1))=pa s (2*(s.size - i)+1) (sk s (sk s k+1))from ((VN s _ _ _).2 om om).1]
theorem FR(s:Bs)(i:Nat):QY s i=(ZS s i).bind fun k=>
  if bt s (sk s k.2)=58 then (val s (sk s (sk s k.2+1))).bind fun q=>
   if bt s (sk s q.2)=125 then η (.cons k.1 q.1 .nil,sk s q.2+1)
   else if bt s (sk s q.2)=44 then (QY s (sk s (sk s q.2+1))).map fun r=>(.cons k.1 q.1 r.1,r.2)
   else ν
  else ν:=by
 have e:QY s i=po s (2*(s.size - i)+1+1) i:=rfl;rw[e,po]
 cases ha:ZS s i with
 | none=>rfl
 | some q=>
  obtain⟨b,a⟩:=q;have j:=Yu ha;have g:=Zd s a;have h:=Zd s (sk s a+1);simp only[yB];rw[show pv s (2*(s.size - i)+1) (sk s (sk s a+1))=val s (sk s (sk s a+1))from (VN s _ _ _).1 om om]
  cases hk:val s (sk s (sk s a+1))with
  | none=>rfl
  | some q=>
   obtain⟨v,k⟩:=q;have l:=VO hk;have d:=Zd s k;have f:=Zd s (sk s k+1);simp only[yB];rw[show QY s (sk s (sk s k+1))=po s (2*(s.size - i)+1) (sk s (sk s k+1))from ((VN s _ _ _).2 om om).2]
theorem EM(s:Bs)(i:Nat)(w:Wo)(hs:s.size<=1048576):
  δ prog 122 #[s,ι κ i] w fun e w'=>e=ε (ι κ (sk s i))/\w=w':=by
 go_in;go_wp2;go_loopw [1] (fun k wr=>w=wr/\∃ j:Nat,k=ι κ (j:Int)/\sk s i=sk s j) (fun k _=>s.size - (intOf k).toNat)
 case atStart=>exact⟨rfl,i,rfl,rfl⟩
 case round=>
  obtain⟨rfl,j,rfl,f⟩:=hrel;have b:=zb f;clear f;by_cases h:j<s.size
  .have d:(j:Int)<(s.size:Int):=om;have l:=Zw s j h;by_cases c:bt s j=32∨bt s j=9∨bt s j=10∨bt s j=13
   .have a:Hid (sk s i=sk s (j+1)):=zb (by rw[uh b,Xx c]);rw[l]at c;rcases c with c | c | c | c
    .have g:(s[j].toNat:Int)=32:=om;go_wp2;go_roundw
     case rel=>exact⟨trivial,j+1,by go_num,a⟩
     case measure=>simp[intOf];omega
    .have g:(s[j].toNat:Int)=9:=om;go_wp2;go_roundw
     case rel=>exact⟨trivial,j+1,by go_num,a⟩
     case measure=>simp[intOf];omega
    .have g:(s[j].toNat:Int)=10:=om;go_wp2;go_roundw
     case rel=>exact⟨trivial,j+1,by go_num,a⟩
     case measure=>simp[intOf];omega
    .have g:(s[j].toNat:Int)=13:=om;go_wp2;go_roundw
     case rel=>exact⟨trivial,j+1,by go_num,a⟩
     case measure=>simp[intOf];omega
   .have a:Hid (sk s i=j):=zb (by rw[uh b,FM c]);have g:((s[j].toNat:Int) ==32)=ζ:=by rw[yd];omega
    have n:((s[j].toNat:Int) ==9)=ζ:=by rw[yd];omega
    have o:((s[j].toNat:Int) ==10)=ζ:=by rw[yd];omega
    have p:((s[j].toNat:Int) ==13)=ζ:=by rw[yd];omega
    go_wp2;go_ret;exact⟨by rw[uh a];rfl,rfl⟩
  .have d:¬ (j:Int)<(s.size:Int):=om;have m:decide ((j:Int)<(s.size:Int))=ζ:=so;have a:Hid (sk s i=j):=zb (by rw[uh b,Pa om]);go_wp2;go_ret;exact⟨by rw[uh a];rfl,rfl⟩
theorem Lc(s t:Bs)(i:Nat)(w:Wo)(hs:s.size<=1048576)(ht:t.size<=10)(hi:i<=s.size+1):
  δ prog 171 #[s,ι κ i,t] w fun e w'=>e=ε (θ (decide (i+t.size<=s.size) && (s.extract i (i+t.size)).toList ==t.toList))/\w=w':=by
 by_cases d:i+t.size<=s.size
 .have b:(i:Int)+(t.size:Int)<=(s.size:Int):=om;have f:(i:Int)<=(i:Int)+(t.size:Int):=om;have g:(0:Int)<=(i:Int):=om;have a:decide (i+t.size<=s.size)=ξ:=so;rw[a,Bool.true_and];go_in;go_wp2;go_ret;exact⟨rfl,rfl⟩
 .have b:¬ (i:Int)+(t.size:Int)<=(s.size:Int):=om;have a:decide (i+t.size<=s.size)=ζ:=so;rw[a,Bool.false_and];go_in;go_wp2;go_ret;exact⟨rfl,rfl⟩
def qK(p:List UInt8×List UInt8):List (List UInt8×List UInt8)->List (List UInt8×List UInt8)
 | []=>[p]
 | q :: r=>if p.1<q.1 then q :: qK p r else p :: q :: r
def zI(l:List (List UInt8×List UInt8)):List (List UInt8×List UInt8):=(l.foldl (fun acc p=>qK p acc) []).reverse
def zo(p:List UInt8×List UInt8):List UInt8:=quoted p.1++58 :: p.2
def joinT:List (List UInt8)->List UInt8
 | []=>[]
 | t :: r=>44 ::(t++joinT r)
def joinC:List (List UInt8)->List UInt8
 | []=>[]
 | t :: r=>t++joinT r
def qm(l:List (List UInt8×List UInt8)):List UInt8:=123 ::(joinC (l.map zo)++[125])
def qe(l:List (List UInt8)):List UInt8:=91 ::(joinC l++[93])
theorem zgF(a b:List (List UInt8)):joinT (a++b)=joinT a++joinT b:=by
 induction a with
 | nil=>rfl
 | cons t r ih=>simp[joinT,ih]
theorem Pi(a:List (List UInt8))(t:List UInt8):joinC (a++[t])=joinC a++(if a=[]then t else 44 :: t):=by
 cases a with
 | nil=>simp[joinC,joinT]
 | cons x r=>simp[joinC,zgF,joinT]
def XD:List UInt8:=[57,50,50,51,51,55,50,48,51,54,56,53,52,55,55,53,56,48,55]
def XE:List UInt8:=[57,50,50,51,51,55,50,48,51,54,56,53,52,55,55,53,56,48,56]
def over(d lim:List UInt8):Bool:=if d.length≠19 then decide (19<d.length)else (!Op.bytesLess d lim && !(d ==lim))
def Jk:List UInt8->Bool
 | []=>ζ
 | c :: r=>if c=45 then over r XE else over (c :: r) XD
mutual
def ct:JV->List UInt8
 | .nul=>[110,117,108,108]
 | .tt=>[116,114,117,101]
 | .ff=>[102,97,108,115,101]
 | .num l=>l
 | .str l=>quoted l
 | .arr l=>qe (zt l)
 | .obj m=>qm (zI (zm m))
def zt:JL->List (List UInt8)
 | .nil=>[]
 | .cons v r=>ct v :: zt r
def zm:JM->List (List UInt8×List UInt8)
 | .nil=>[]
 | .cons k v r=>(k,ct v) :: zm r
end
mutual
def zY:JV->Bool
 | .nul=>ζ
 | .tt=>ζ
 | .ff=>ζ
 | .num l=>Jk l
 | .str _=>ζ
 | .arr l=>qz l
 | .obj m=>Z7 m
def qz:JL->Bool
 | .nil=>ζ
 | .cons v r=>zY v || qz r
def Z7:JM->Bool
 | .nil=>ζ
 | .cons _ v r=>zY v || Z7 r
end
mutual
def zF:JV->Bool
 | .nul=>ζ
 | .tt=>ζ
 | .ff=>ζ
 | .num _=>ζ
 | .str _=>ζ
 | .arr l=>qf l
 | .obj m=>Z1 [] m
def qf:JL->Bool
 | .nil=>ζ
 | .cons v r=>zF v || qf r
def Z1:List (List UInt8)->JM->Bool
 | _,.nil=>ζ
 | ks,.cons k v r=>(zF v || ks.contains k) || Z1 (ks++[k]) r
end
mutual
def zJ:JV->Nat
 | .nul=>1
 | .tt=>1
 | .ff=>1
 | .num _=>1
 | .str _=>1
 | .arr l=>YQ l+1
 | .obj m=>Yb m+1
def YQ:JL->Nat
 | .nil=>0
 | .cons v r=>max (zJ v) (YQ r)
def Yb:JM->Nat
 | .nil=>0
 | .cons _ v r=>max (zJ v) (Yb r)
end
mutual
def zn:JV->Nat
 | .nul=>1
 | .tt=>1
 | .ff=>1
 | .num _=>1
 | .str _=>1
 | .arr l=>QZ l+1
 | .obj m=>Qu m+1
def QZ:JL->Nat
 | .nil=>0
 | .cons v r=>zn v+QZ r
def Qu:JM->Nat
 | .nil=>0
 | .cons _ v r=>zn v+Qu r
end
def JL.app:JL->JL->JL
 | .nil,b=>b
 | .cons v r,b=>.cons v (r.app b)
def JM.app:JM->JM->JM
 | .nil,b=>b
 | .cons k v r,b=>.cons k v (r.app b)
theorem JL.app_assoc:∀ a b c:JL,(a.app b).app c=a.app (b.app c)
 | .nil,_,_=>rfl
 | .cons v r,b,c=>by simp[JL.app,JL.app_assoc r b c]
theorem JM.app_assoc:∀ a b c:JM,(a.app b).app c=a.app (b.app c)
 | .nil,_,_=>rfl
 | .cons k v r,b,c=>by simp[JM.app,JM.app_assoc r b c]
theorem JL.app_nil:∀ a:JL,a.app .nil=a
 | .nil=>rfl
 | .cons v r=>by simp[JL.app,JL.app_nil r]
theorem JM.app_nil:∀ a:JM,a.app .nil=a
 | .nil=>rfl
 | .cons k v r=>by simp[JM.app,JM.app_nil r]
theorem EN:∀ a b:JM,zm (a.app b)=zm a++zm b
 | .nil,b=>by simp[JM.app,zm]
 | .cons k v r,b=>by simp[JM.app,zm,EN r b]
theorem Ld:∀ a b:JL,qz (a.app b)=(qz a || qz b)
 | .nil,b=>by simp[JL.app,qz]
 | .cons v r,b=>by simp[JL.app,qz,Ld r b,Ω]
theorem Le:∀ a b:JM,Z7 (a.app b)=(Z7 a || Z7 b)
 | .nil,b=>by simp[JM.app,Z7]
 | .cons k v r,b=>by simp[JM.app,Z7,Le r b,Ω]
theorem Lf:∀ a b:JL,qf (a.app b)=(qf a || qf b)
 | .nil,b=>by simp[JL.app,qf]
 | .cons v r,b=>by simp[JL.app,qf,Lf r b,Ω]
def QF:JM->List (List UInt8)
 | .nil=>[]
 | .cons k _ r=>k :: QF r
theorem EO:∀ a b:JM,QF (a.app b)=QF a++QF b
 | .nil,b=>by simp[JM.app,QF]
 | .cons k v r,b=>by simp[JM.app,QF,EO r b]
theorem Lg:∀ (ks:List (List UInt8)) (a b:JM),Z1 ks (a.app b)=(Z1 ks a || Z1 (ks++QF a) b)
 | ks,.nil,b=>by simp[JM.app,Z1,QF]
 | ks,.cons k v r,b=>by simp[JM.app,Z1,QF,Lg (ks++[k]) r b,Ω]
theorem FS:∀ a:JM,(zm a).map (·.1)=QF a
 | .nil=>rfl
 | .cons k v r=>by simp[zm,QF,FS r]
theorem U3(s:Bs)(i j:Nat):(s.extract i j).toList=Zr s i j:=by
 rw[Ε,Lib.extract_data];rfl
theorem XF(s:Bs)(i j:Nat):s.extract i j=ze (Zr s i j):=by
 have h:(s.extract i j).data.toList=Zr s i j:=by rw[Lib.extract_data];rfl
 rw[← h]
 cases s.extract i j;simp[ze]
theorem zgG(c:UInt8)(r:List UInt8):Zr (ze (c :: r)) 1 (r.length+1)=r:=by
 unfold Zr;rw[Zb];simp
theorem EQ(l:List UInt8)(w:Wo)(h0:l≠[])(hl:l.length<=1048576):
  δ prog 209 #[(ze l)] w fun e w'=>e=ε (θ (Jk l))/\w=w':=by
 obtain⟨c,r,rfl⟩:∃ c r,l=c :: r:=by cases l with | nil=>exact absurd rfl h0 | cons c r=>exact⟨c,r,rfl⟩
 have m:(ze (c :: r)).size=r.length+1:=by rw[zK];rfl
 have j:0<(ze (c :: r)).size:=om;have h:(ze (c :: r))[0].toNat=c.toNat:=rfl;by_cases d:c=45
 .subst d;have f:Hid (Jk (45 :: r)=over r XE):=zb (by rw[Jk,yg rfl]);have g:Hid (((ze (45 :: r)).extract 1 (r.length+1)).toList=r):=zb (by rw[U3,zgG]);have k:((ze (45 :: r))[0].toNat:Int)=45:=by rw[h];rfl
  by_cases b:r.length=19
  .have i:((r.length:Int) !=19)=ζ:=by rw[bne_eq_false_iff_eq];omega
   have a:Hid (Jk (45 :: r)=(!Op.bytesLess r XE && !(r ==XE))):=by show _=_;rw[uh f];unfold over;rw[yf om]
   clear b h h0;go_in;go_wp2;go_ret;refine⟨?_,rfl⟩;rw[uh g,uh a];rfl
  .have i:((r.length:Int) !=19)=ξ:=by rw[bne_iff_ne];omega
   have a:Hid (Jk (45 :: r)=decide (19<(r.length:Int))):=by
    show _=_;rw[uh f];unfold over;rw[yg b];simp;omega
   go_in;go_wp2;go_ret;refine⟨?_,rfl⟩;rw[uh a];rfl
 .have f:Hid (Jk (c :: r)=over (c :: r) XD):=zb (by rw[Jk,yf d]);have g:Hid ((ze (c :: r)).toList=c :: r):=zb (by rw[Ε,Zb]);have k:(((ze (c :: r))[0].toNat:Int) ==45)=ζ:=by
   rw[yd,h];intro e;exact d (UInt8.toNat_inj.1 (by show c.toNat=45;omega))
  by_cases b:r.length=18
  .have i:((r.length+1:Int) !=19)=ζ:=by rw[bne_eq_false_iff_eq];omega
   have a:Hid (Jk (c :: r)=(!Op.bytesLess (c :: r) XD && !((c :: r) ==XD))):=by show _=_;rw[uh f];unfold over;rw[yf so]
   go_in;go_wp2;go_ret;refine⟨?_,rfl⟩;rw[uh g,uh a];rfl
  .have i:((r.length+1:Int) !=19)=ξ:=by rw[bne_iff_ne];omega
   have a:Hid (Jk (c :: r)=decide (19<(r.length+1:Int))):=by
    show _=_;rw[uh f];unfold over;rw[yg so];simp;omega
   go_in;go_wp2;go_ret;refine⟨?_,rfl⟩;rw[uh a];rfl
def GE(o:Option Nat):Int:=o.elim (-1) fun n=>(n:Int)
theorem zgH(b:Nat)(hb:b<256)(w:Wo):
  δ prog 235 #[.int .u8 b] w fun e w'=>w=w'/\e=ε (ι κ (GE (hx b))):=by
 by_cases d:48<=b/\b<=57
 .have a:Hid (hx b=η (b - 48)):=by show _=_;unfold hx;rw[yg d]
  go_in;go_wp2;go_ret;refine⟨rfl,?_⟩;rw[uh a];exact Uv (show _=((b - 48:Nat):Int) by go_num)
 .by_cases f:97<=b/\b<=102
  .have a:Hid (hx b=η (b - 87)):=by show _=_;unfold hx;rw[yf d,yg f]
   go_in;go_wp2;go_ret;refine⟨rfl,?_⟩;rw[uh a];exact Uv (show _=((b - 87:Nat):Int) by go_num)
  .by_cases h:65<=b/\b<=70
   .have a:Hid (hx b=η (b - 55)):=by show _=_;unfold hx;rw[yf d,yf f,yg h]
    go_in;go_wp2;go_ret;refine⟨rfl,?_⟩;rw[uh a];exact Uv (show _=((b - 55:Nat):Int) by go_num)
   .have a:Hid (hx b=ν):=by show _=_;unfold hx;rw[yf d,yf f,yf h]
    rcases (show b<48∨(57<b/\b<65)∨(70<b/\b<97)∨102<b from by omega)with g | g | g | g
    .go_in;go_wp2;go_ret;exact⟨rfl,by rw[uh a];rfl⟩
    .go_in;go_wp2;go_ret;exact⟨rfl,by rw[uh a];rfl⟩
    .go_in;go_wp2;go_ret;exact⟨rfl,by rw[uh a];rfl⟩
    .go_in;go_wp2;go_ret;exact⟨rfl,by rw[uh a];rfl⟩
def zgI(c:Nat)(k:ω):Prop:=∃ j:Nat,j<=8/\k=ι κ j/\(0<j->c≠34)/\(1<j->c≠92)/\(2<j->c≠47)/\(3<j->c≠98)/\(4<j->c≠102)/\(5<j->c≠110)/\(6<j->c≠114)/\(7<j->c≠116)
abbrev zgJ(w:Wo):Wo:=w.alloc (χ #[.int .u8 34,.int .u8 92,.int .u8 47,.int .u8 8,.int .u8 12,.int .u8 10,.int .u8 13,.int .u8 9] 5)
theorem ER(c:Nat)(hc:c<256)(w:Wo):
  δ prog 205 #[.int .u8 c] w fun e w'=>e=ε (ι κ (GE (JX c)))/\Below w w w':=by
 go_in;go_wp2;go_loopw [5] (fun k wr=>zgI c k/\zgJ w=wr) (fun k _=>8 - (intOf k).toNat)
 case atStart=>exact⟨⟨0,om,rfl,om,om,om,om,om,om,om,om⟩,rfl⟩
 case round=>
  obtain⟨⟨j,p,rfl,a,b,d,n3,h,i,l,m⟩,rfl⟩:=hrel;have n:Hid ((0<j->c≠34)/\(1<j->c≠92)/\(2<j->c≠47)/\(3<j->c≠98)/\(4<j->c≠102)/\(5<j->c≠110)/\(6<j->c≠114)/\(7<j->c≠116)):=⟨a,b,d,n3,h,i,l,m⟩;rcases (show j=0∨j=1∨j=2∨j=3∨j=4∨j=5∨j=6∨j=7∨j=8 from by omega)with rfl | rfl | rfl | rfl | rfl | rfl | rfl | rfl | rfl
  .have g:((⟨#[34,92,47,98,102,110,114,116]⟩:Bs)[0]'dc).toNat=34:=rfl;by_cases e:c=34
   .subst e;go_wp2;go_ret;exact⟨rfl,(yI _ _).alloc (ye _) _⟩
   .have t:((34:Int) ==(c:Int))=ζ:=by rw[yd];omega
    have f:=zb e;go_wp2;go_roundw
    case rel=>
     obtain⟨a,b,d,n3,h,i,l,m⟩:=uh n;have e:=uh f;exact⟨⟨1,om,by go_num,fun _=>e,om,om,om,om,om,om,om⟩,trivial⟩
    case measure=>simp[intOf]
  .have g:((⟨#[34,92,47,98,102,110,114,116]⟩:Bs)[1]'dc).toNat=92:=rfl;by_cases e:c=92
   .subst e;go_wp2;go_ret;exact⟨rfl,(yI _ _).alloc (ye _) _⟩
   .have t:((92:Int) ==(c:Int))=ζ:=by rw[yd];omega
    have f:=zb e;go_wp2;go_roundw
    case rel=>
     obtain⟨a,b,d,n3,h,i,l,m⟩:=uh n;have e:=uh f;exact⟨⟨2,om,by go_num,fun _=>a om,fun _=>e,om,om,om,om,om,om⟩,trivial⟩
    case measure=>simp[intOf]
  .have g:((⟨#[34,92,47,98,102,110,114,116]⟩:Bs)[2]'dc).toNat=47:=rfl;by_cases e:c=47
   .subst e;go_wp2;go_ret;exact⟨rfl,(yI _ _).alloc (ye _) _⟩
   .have t:((47:Int) ==(c:Int))=ζ:=by rw[yd];omega
    have f:=zb e;go_wp2;go_roundw
    case rel=>
     obtain⟨a,b,d,n3,h,i,l,m⟩:=uh n;have e:=uh f;exact⟨⟨3,om,by go_num,fun _=>a om,fun _=>b om,fun _=>e,om,om,om,om,om⟩,trivial⟩
    case measure=>simp[intOf]
  .have g:((⟨#[34,92,47,98,102,110,114,116]⟩:Bs)[3]'dc).toNat=98:=rfl;by_cases e:c=98
   .subst e;go_wp2;go_ret;exact⟨rfl,(yI _ _).alloc (ye _) _⟩
   .have t:((98:Int) ==(c:Int))=ζ:=by rw[yd];omega
    have f:=zb e;go_wp2;go_roundw
    case rel=>
     obtain⟨a,b,d,n3,h,i,l,m⟩:=uh n;have e:=uh f;exact⟨⟨4,om,by go_num,fun _=>a om,fun _=>b om,fun _=>d om,fun _=>e,om,om,om,om⟩,trivial⟩
    case measure=>simp[intOf]
  .have g:((⟨#[34,92,47,98,102,110,114,116]⟩:Bs)[4]'dc).toNat=102:=rfl;by_cases e:c=102
   .subst e;go_wp2;go_ret;exact⟨rfl,(yI _ _).alloc (ye _) _⟩
   .have t:((102:Int) ==(c:Int))=ζ:=by rw[yd];omega
    have f:=zb e;go_wp2;go_roundw
    case rel=>
     obtain⟨a,b,d,n3,h,i,l,m⟩:=uh n;have e:=uh f;exact⟨⟨5,om,by go_num,fun _=>a om,fun _=>b om,fun _=>d om,fun _=>n3 om,fun _=>e,om,om,om⟩,trivial⟩
    case measure=>simp[intOf]
  .have g:((⟨#[34,92,47,98,102,110,114,116]⟩:Bs)[5]'dc).toNat=110:=rfl;by_cases e:c=110
   .subst e;go_wp2;go_ret;exact⟨rfl,(yI _ _).alloc (ye _) _⟩
   .have t:((110:Int) ==(c:Int))=ζ:=by rw[yd];omega
    have f:=zb e;go_wp2;go_roundw
    case rel=>
     obtain⟨a,b,d,n3,h,i,l,m⟩:=uh n;have e:=uh f;exact⟨⟨6,om,by go_num,fun _=>a om,fun _=>b om,fun _=>d om,fun _=>n3 om,fun _=>h om,fun _=>e,om,om⟩,trivial⟩
    case measure=>simp[intOf]
  .have g:((⟨#[34,92,47,98,102,110,114,116]⟩:Bs)[6]'dc).toNat=114:=rfl;by_cases e:c=114
   .subst e;go_wp2;go_ret;exact⟨rfl,(yI _ _).alloc (ye _) _⟩
   .have t:((114:Int) ==(c:Int))=ζ:=by rw[yd];omega
    have f:=zb e;go_wp2;go_roundw
    case rel=>
     obtain⟨a,b,d,n3,h,i,l,m⟩:=uh n;have e:=uh f;exact⟨⟨7,om,by go_num,fun _=>a om,fun _=>b om,fun _=>d om,fun _=>n3 om,fun _=>h om,fun _=>i om,fun _=>e,om⟩,trivial⟩
    case measure=>simp[intOf]
  .have g:((⟨#[34,92,47,98,102,110,114,116]⟩:Bs)[7]'dc).toNat=116:=rfl;by_cases e:c=116
   .subst e;go_wp2;go_ret;exact⟨rfl,(yI _ _).alloc (ye _) _⟩
   .have t:((116:Int) ==(c:Int))=ζ:=by rw[yd];omega
    have f:=zb e;go_wp2;go_roundw
    case rel=>
     obtain⟨a,b,d,n3,h,i,l,m⟩:=uh n;have e:=uh f;exact⟨⟨8,om,by go_num,fun _=>a om,fun _=>b om,fun _=>d om,fun _=>n3 om,fun _=>h om,fun _=>i om,fun _=>l om,fun _=>e⟩,trivial⟩
    case measure=>simp[intOf]
  .have o:Hid (JX c=ν):=by
    obtain⟨a,b,d,n3,h,i,l,m⟩:=uh n;show _=_
    unfold JX;rw[yf (a om),yf (b om),yf (d om),yf (n3 om),yf (h om),yf (i om),yf (l om),yf (m om)]
   go_wp2;go_ret;exact⟨by rw[uh o];rfl,(yI _ _).alloc (ye _) _⟩
def QG(t:Bs)(n:Nat)(ok b tw:Bool):ω:=γ #[.string t,ι κ (n:Int),θ ok,θ b,θ tw]
def GP(w:Wo)(o:Option (JV×Nat))(e:Ending)(w':Wo):Prop:=
 Bw w w'/\o.elim (∃ (t:Bs) (n:Nat) (b tw:Bool),e=ε (QG t n ζ b tw)) fun q=>e=ε (QG (ze (ct q.1)) q.2 ξ (zY q.1) (zF q.1))
theorem GP.bad{o:Option (JV×Nat)}(h:o=ν)(b:Below w w w'):GP w o (ε (γ #[σ ⟨#[]⟩,ι κ 0,θ ζ,θ ζ,θ ζ])) w':=by
 subst h;exact⟨b,_,0,_,_,rfl⟩
theorem Lh(b:Nat)(w:Wo):
  δ prog 156 #[.int .u8 b] w fun e w'=>e=ε (θ (zS b))/\w=w':=by
 by_cases h:48<=b
 .have a:Hid (zS b=decide ((b:Int)<=57)):=by
   show _=_
   unfold zS;rw[yj h,Bool.true_and];apply decide_eq_decide.2;omega
  have d:(48:Int)<=(b:Int):=om;go_in;go_wp2;go_ret;exact⟨by rw[uh a];rfl,rfl⟩
 .have a:Hid (zS b=ζ):=by
   show _=_
   unfold zS;rw[yk h,Bool.false_and]
  have d:¬ (48:Int)<=(b:Int):=om;go_in;go_wp2;go_ret;exact⟨by rw[uh a];rfl,rfl⟩
theorem ZF(w:Wo)(o:Obj):Below w w (w.alloc o):=(yI _ _).alloc (ye _) _
theorem zgK(s:Bs)(i:Nat)(w:Wo)(hs:s.size<=1048576)(hi:i<=s.size+1):
  δ prog 172 #[s,ι κ i] w (GP w ((nm s i).map fun q=>(.num q.1,q.2))):=by
 have F:=zb fun w=>WI s (i:Int) i rfl 45 w;have u:Hid (J6 s i 45=decide (bt s i=45)):=by
  show _=_
  by_cases h:i<s.size
  .rw[Gf h,Zw s i h,ό,yD,decide_eq_true_iff];omega
  .rw[KJ h,YP s i om];rfl
 have p:Hid (nm s i=if zS (bt s (Za s i))=ξ then η (QE (Zr s i (qJ s i)),qJ s i)else ν):=rfl;have K:Za s i=i/\bt s i≠45∨Za s i=i+1/\bt s i=45:=by unfold Za;split<;>simp[*]
 have r:qJ s i=if bt s (Za s i)=48 then Za s i+1 else dg s (Za s i):=rfl
 generalize Za s i=d,qJ s i=E at *;have B:=zb r;clear r;go_in;go_wp2_with fail;go_call uh F _ as e w1 ⟨rfl,rfl⟩;have D:=zb (ZF w (χ #[σ ⟨#[]⟩,ι κ 0,θ ζ,θ ζ,θ ζ] 197));rw[uh u];go_upto_if 10 with fail;go_cut [1]from 8 to 12 (fun x wx=>x=ι κ (d:Int)/\wx=w.alloc (χ #[σ ⟨#[]⟩,ι κ 0,θ ζ,θ ζ,θ ζ] 197))
 case first=>
  rcases K with ⟨rfl,h⟩ |⟨rfl,h⟩<;>(go_wp2;go_meet;case rel=>exact⟨rfl,rfl⟩)
 obtain⟨rfl,rfl⟩:=hcut;have L:i<=d:=om;by_cases b:d<s.size
 .have M:((s.size:Int)<=(d:Int))=False:=yR om;have N:((d:Int)<(s.size:Int))=True:=eq_true om;have g:Hid (∀ (j:Nat) (hj:j<s.size) w,δ prog 156 #[.int .u8 (s[j].toNat:Int)] w (Rk (θ (zS (bt s j))) w)):=fun j hj w=>by
   rw[Zw s j hj];exact Lh _ w
  have y:=Zw s d b;go_wp2_with fail;go_call uh g d b _ as e w2 ⟨rfl,rfl⟩
  cases hdg:zS (bt s d)with
  | false=>
   have HR:Hid (((nm s i).map fun q=>(JV.num q.1,q.2))=ν):=by show _=_;rw[uh p,yf (by rw[hdg];simp)];rfl
   go_wp2;go_returns;exact GP.bad HR D
  | true=>
   have H:=zb hdg;rw[yg hdg]at p;obtain⟨q,A⟩:∃ q,((s[d].toNat:Int) ==48)=q:=⟨_,rfl⟩;have C:Hid (q=decide (bt s d=48)):=by show _=_;rw[← A,y,ό,yD,decide_eq_true_iff];omega
   go_upto_if 28 with fail;go_cut [1]from 25 to 42 (fun x wx=>x=ι κ (E:Int)/\d<E/\E<=s.size/\wx=w.alloc (χ #[σ ⟨#[]⟩,ι κ 0,θ ζ,θ ζ,θ ζ] 197))
   case first=>
    cases q with
    | true=>
     have r:=B.trans (yg (of_decide_eq_true C.symm));subst r;go_wp2;go_meet
     case rel=>exact⟨rfl,om,b,rfl⟩
    | false=>
     have v:=zb (B.trans (yf (of_decide_eq_false C.symm)));go_wp2_with fail;go_loopw [1] (fun k wr=>wr=w.alloc (χ #[σ ⟨#[]⟩,ι κ 0,θ ζ,θ ζ,θ ζ] 197)/\∃ j:Nat,k=ι κ (j:Int)/\j<=s.size/\Hid (E=dg s j)/\(d<j∨j=d)) (fun k _=>s.size - (intOf k).toNat)
     case atStart=>exact⟨rfl,d,by go_num,om,v,.inr rfl⟩
     case round=>
      obtain⟨rfl,j,rfl,n,a,z⟩:=hrel;by_cases o:j<s.size
      .have O:((j:Int)<(s.size:Int))=True:=eq_true om;go_wp2_with fail;go_call uh g j o _ as e w3 ⟨rfl,rfl⟩
       cases hjd:zS (bt s j)with
       | true=>
        have l:Hid (E=dg s (j+1)):=zb (by rw[uh a,Wu hjd]);go_wp2;go_roundw
        case rel=>exact⟨trivial,j+1,by go_num,om,l,.inl om⟩
        case measure=>simp[intOf];omega
       | false=>
        have l:E=j:=by rw[uh a,XA (by rw[hjd];simp)]
        have f:d<j:=by
         rcases z with h | h
         .exact h
         .subst h;have:=uh H;rw[hjd]at this;cases this
        subst l;go_wp2;go_meet
        case rel=>exact⟨rfl,f,n,rfl⟩
      .have O:((j:Int)<(s.size:Int))=False:=yR om;have l:E=j:=by rw[uh a,XA (by rw[YP s j om];simp[zS])]
       subst l;have f:d<E:=om;go_wp2;go_meet
       case rel=>exact⟨rfl,f,n,rfl⟩
   obtain⟨rfl,P,Q,rfl⟩:=hcut;have R:(i:Int)<=(E:Int):=om;have S:(E:Int)<=(s.size:Int):=om;have T:(0:Int)<=(i:Int):=om;have m:(Zr s i E).length=E - i:=by unfold Zr;rw[ym,yv,Zk];omega
   have G:Hid (∀ w,δ prog 209 #[σ (ze (QE (Zr s i E)))] w (Rk (θ (Jk (QE (Zr s i E)))) w)):=fun w=>by
    unfold QE;split
    .exact EQ _ w sm sm
    .exact EQ _ w (by intro h;rw[h]at m;simp at m;omega) om
   obtain⟨q,A⟩:∃ q,((s.extract i E).toList ==[45,48])=q:=⟨_,rfl⟩;have J:Hid (QE (Zr s i E)=if q then [48]else Zr s i E):=by show _=_;rw[← A,U3];simp only[yD];rfl
   have I:=zb (XF s i E);go_upto_if 48 with fail;go_cut [6]from 47 to 48 (fun x wx=>x=σ (ze (QE (Zr s i E)))/\wx=w.alloc (χ #[σ ⟨#[]⟩,ι κ 0,θ ζ,θ ζ,θ ζ] 197))
   case first=>
    cases q<;>(go_wp2;go_meet;case rel=>exact⟨by rw[uh J];first | rfl |(rw[uh I];rfl),rfl⟩)
   obtain⟨rfl,rfl⟩:=hcut;go_wp2_with fail;go_call uh G _ as e' w3 ⟨rfl,rfl⟩;go_wp2;go_returns;rw[uh p];exact⟨ZF w _,rfl⟩
 .have M:((s.size:Int)<=(d:Int))=True:=eq_true om;have HR:Hid (((nm s i).map fun q=>(JV.num q.1,q.2))=ν):=by
   show _=_
   rw[uh p,yf (by rw[YP s d om];simp[zS])];rfl
  go_wp2;go_returns;exact GP.bad HR D
def QH:JL->List UInt8
 | .nil=>[]
 | .cons v r=>ct v++44 :: QH r
theorem Li:∀ (a:JL) (v:JV),QH (a.app (.cons v .nil))=QH a++(ct v++[44])
 | .nil,v=>by simp[JL.app,QH]
 | .cons u r,v=>by simp[JL.app,QH,Li r v]
theorem ET:∀ (a:JL) (v:JV),44 ::(QH a++ct v)=joinT (zt (a.app (.cons v .nil)))
 | .nil,v=>by simp[JL.app,QH,zt,joinT]
 | .cons u r,v=>by
  have:=ET r v;simp[JL.app,QH,zt,joinT,← this]
theorem zgL(a:JL)(v:JV):QH a++ct v=joinC (zt (a.app (.cons v .nil))):=by
 cases a with
 | nil=>simp[JL.app,QH,zt,joinC,joinT]
 | cons u r=>
  have:=ET r v;simp[JL.app,QH,zt,joinC,← this]
abbrev qY(t:Bs)(n:Nat)(ok b tw:Bool):Obj:=χ #[.string t,ι κ (n:Int),θ ok,θ b,θ tw] 197 (0,0)
def Zs(g:Nat)(t:Bs)(n:Nat)(ok b tw:Bool)(w:Wo):Prop:=w.heap[g]?=η (qY t n ok b tw)
theorem Zs.c0(h:Zs g t n ok b tw w):w.cell? g=η t:=by rw[yG h];rfl
theorem Zs.c1(h:Zs g t n ok b tw w):w.cell? ⟨g,1,ν⟩=η (ι κ (n:Int)):=by rw[yG h];rfl
theorem Zs.c2(h:Zs g t n ok b tw w):w.cell? ⟨g,2,ν⟩=η (θ ok):=by rw[yG h];rfl
theorem Zs.c3(h:Zs g t n ok b tw w):w.cell? ⟨g,3,ν⟩=η (θ b):=by rw[yG h];rfl
theorem Zs.c4(h:Zs g t n ok b tw w):w.cell? ⟨g,4,ν⟩=η (θ tw):=by rw[yG h];rfl
theorem Zs.fz(h:Zs g t n ok b tw w)(k:Nat):w.frozen? ⟨g,k,ν⟩=ζ:=yJ h k
theorem Zs.lt(h:Zs g t n ok b tw w):g<w.heap.size:=(yC.1 h).1
theorem Zs.below(h:Zs g t n ok b tw w)(hb:Below w w w'):Zs g t n ok b tw w':=(hb.block g h.lt).trans h
theorem Zs.alloc(h:Zs g t n ok b tw w)(o:Obj):Zs g t n ok b tw (w.alloc o):=h.below (ZF w o)
theorem Zs.other(h:Zs g t n ok b tw w){p:Addr}(hp:g≠p.block)(v:ω):Zs g t n ok b tw (w.setCell p v):=(Below.heap_setCell w p v g hp).trans h
theorem Zs.set0(h:Zs g t n ok b tw w)(t':Bs):Zs g t' n ok b tw (w.setCell g t'):=heap_setCell_same w g 0 _ 197 t' h
theorem Zs.set1(h:Zs g t n ok b tw w)(z:Int)(n':Nat)(hz:z=(n':Int)):Zs g t n' ok b tw (w.setCell ⟨g,1,ν⟩ (ι κ z)):=by
 subst hz;exact heap_setCell_same w g 1 _ 197 (ι κ (n':Int)) h
theorem Zs.set3(h:Zs g t n ok b tw w)(b':Bool):Zs g t n ok b' tw (w.setCell ⟨g,3,ν⟩ (θ b')):=heap_setCell_same w g 3 _ 197 (θ b') h
theorem Zs.set4(h:Zs g t n ok b tw w)(b':Bool):Zs g t n ok b b' (w.setCell ⟨g,4,ν⟩ (θ b')):=heap_setCell_same w g 4 _ 197 (θ b') h
theorem Zs.set2(h:Zs g t n ok b tw w)(b':Bool):Zs g t n b' b tw (w.setCell ⟨g,2,ν⟩ (θ b')):=heap_setCell_same w g 2 _ 197 (θ b') h
theorem Zs.put(h:Zs g t n ok b tw w)(t':Bs)(z:Int)(n':Nat)(hz:z=(n':Int))(ok' b' tw':Bool):
  Zs g t' n' ok' b' tw' (((((w.setCell g t').setCell ⟨g,1,ν⟩ (ι κ z)).setCell ⟨g,2,ν⟩ (θ ok')).setCell ⟨g,3,ν⟩ (θ b')).setCell ⟨g,4,ν⟩ (θ tw')):=
 ((((h.set0 t').set1 z n' hz).set2 ok').set3 b').set4 tw'
theorem Zs.copyTo{n0:Nat}{t0:Bs}{ok0 b0 tw0:Bool}(h:Zs r t0 n0 ok0 b0 tw0 w)(_:Zs g t n ok b tw w)(z:Int)(hz:z=(n:Int)):
  Zs r t n ok b tw (((((w.setCell r t).setCell ⟨r,1,ν⟩ (ι κ z)).setCell ⟨r,2,ν⟩ (θ ok)).setCell ⟨r,3,ν⟩ (θ b)).setCell ⟨r,4,ν⟩ (θ tw)):=h.put t z n hz ok b tw
theorem Vl(h:Below B w w')(hg:B<=g)(a b c d e:ω):
  Below B w (((((w'.setCell g a).setCell ⟨g,1,ν⟩ b).setCell ⟨g,2,ν⟩ c).setCell ⟨g,3,ν⟩ d).setCell ⟨g,4,ν⟩ e):=
 ((((h.setCell (p:=g) hg _).setCell (p:=⟨g,1,ν⟩) hg _).setCell (p:=⟨g,2,ν⟩) hg _).setCell (p:=⟨g,3,ν⟩) hg _).setCell (p:=⟨g,4,ν⟩) hg _
theorem Vm{fn:Func}(hres:fn.results=#[.cell 4 197]){tmps:Array ω}(hp:tmps.getD 4 undef=π (η g))(h:Zs g t n ok b tw w):
  (results fn tmps).run prog w= .ok (QG t n ok b tw) w:=
 results_cell_row hres tmps w g 197 _ (0,0) _ hp h underlying197 rfl kr
theorem EU:∀ a b c:Bool,(a || b)=c->a=ξ/\c=ξ∨a=ζ/\b=c:=by decide
def zgM(g:Nat)(a b c d e:ω)(w:Wo):Prop:=w.cell? ⟨g,0,ν⟩=η a/\w.cell? ⟨g,1,ν⟩=η b/\w.cell? ⟨g,2,ν⟩=η c/\w.cell? ⟨g,3,ν⟩=η d/\w.cell? ⟨g,4,ν⟩=η e
theorem Zs.cells(h:Zs g t n ok b tw w):zgM g t (ι κ (n:Int)) (θ ok) (θ b) (θ tw) w:=⟨h.c0,h.c1,h.c2,h.c3,h.c4⟩
theorem Zs.fzs(h:Zs g t n ok b tw w):w.frozen? g=ζ/\w.frozen? ⟨g,1,ν⟩=ζ/\w.frozen? ⟨g,2,ν⟩=ζ/\w.frozen? ⟨g,3,ν⟩=ζ/\w.frozen? ⟨g,4,ν⟩=ζ:=⟨h.fz 0,h.fz 1,h.fz 2,h.fz 3,h.fz 4⟩
theorem Vn(a b:List UInt8):ze a++ze b=ze (a++b):=by
 apply Go.WideShapes.bytes_inj;rw[ByteArray.data_append,Array.toList_append,Zb,Zb,Zb]
def zgN(s:Bs):Prop:=
 (∀ (z:Int) (j:Nat) w,z=(j:Int)->δ prog 122 #[.string s,ι κ z] w (Rk (ι κ (sk s j)) w)) /\
 (∀ (c j:Nat) w,c≠0->δ prog 161 #[.string s,ι κ j,.int .u8 c] w (Rk (θ (decide (bt s j=c))) w))
theorem Lj(s:Bs)(hs:s.size<=1048576):zgN s:=by
 refine⟨fun z j w hz=>?_,fun c j w hc=>?_⟩
 .subst hz;exact EM s j w hs
 .have h:=WI s (j:Int) j rfl c w;have e:J6 s j (c:Int)=decide (bt s j=c):=by
   by_cases a:j<s.size
   .rw[Gf a,← Zw s j a];by_cases g:bt s j=c
    .rw[g];simp
    .rw[yk g,yd];omega
   .rw[KJ a,YP s j om];exact (yk (fun g=>hc g.symm)).symm
  rw[e]at h;exact h
abbrev zx:=List UInt8×List UInt8
def Zc(p:zx):List ω:=[σ (ze p.1),σ (ze p.2)]
def PR(w:Wo)(B:Nat)(v:ω)(ps:List zx):Prop:=w.ownsRow B 120 2 v ps.length (ps.flatMap Zc)
theorem EW(ps:List zx)(j:Nat)(h:j<ps.length):(ps.flatMap Zc)[j*2]?=η (σ (ze ps[j].1))/\(ps.flatMap Zc)[j*2+1]?=η (σ (ze ps[j].2)):=by
 induction ps generalizing j with
 | nil=>simp at h
 | cons p r ih=>
  cases j with
  | zero=>exact⟨rfl,rfl⟩
  | succ j=>
   have:=ih j (by simpa using h);rw[Μ,show (j+1)*2=j*2+2 from by omega];exact this
theorem PR.cells{v:ω}{ps:List zx}(h:PR w B v ps)(j:Nat)(hj:j<ps.length):
  ∃ g cap,v=ς (η ⟨g,0,ν⟩) ps.length cap/\B<=g/\g<w.heap.size/\w.cell? ⟨g,j*2,ν⟩=η (σ (ze ps[j].1))/\w.cell? ⟨g,j*2+1,ν⟩=η (σ (ze ps[j].2)):=by
 obtain⟨o,m |⟨g,cap,f,l,i,b,p,n,k,d⟩⟩:=h
 .omega
 .have a:=EW ps j hj;refine⟨g,cap,l,i,(yC.1 b).1,?_,?_⟩
  .rw[yG b,← Array.getElem?_toList,← a.1,← d,Ο om]
  .rw[yG b,← Array.getElem?_toList,← a.2,← d,Ο om]
theorem PR.below{v:ω}{ps:List zx}(h:PR w B v ps)(hb:Below w w w'):PR w' B v ps:=Zl h hb
theorem PR.mono{B':Nat}{v:ω}{ps:List zx}(h:PR w B v ps)(hB:B'<=B):PR w B' v ps:=qN h hB
def VP(ps:List zx)(key:List UInt8):Bool:=(ps.map (·.1)).contains key
theorem FT(a b:List UInt8):((ze a).toList ==(ze b).toList)=(a ==b):=by
 rw[Ε,Ε,Zb,Zb]
theorem Lk(B:Nat)(v:ω)(ps:List zx)(key:List UInt8)(w:Wo)(h:PR w B v ps)(hn:ps.length<=40000000):
  δ prog 126 #[v,σ (ze key)] w fun e w'=>∃ z:Int,e=ε (ι κ z)/\decide ((0:Int)<=z)=VP ps key/\w=w':=by
 obtain⟨x,len,a,rfl,i⟩:∃ x len a,v=ς x len a/\len=ps.length:=by
  rcases h.2 with ⟨o,y⟩ |⟨g,a,u,o,_⟩
  .exact⟨_,_,_,o,y.symm⟩
  .exact⟨_,_,_,o,rfl⟩
 subst i;have r:=zb h;go_in;go_wp2_with fail;go_loopw [5] (fun k wr=>w=wr/\∃ j:Nat,k=ι κ (j:Int)/\j<=ps.length/\((ps.take j).map (·.1)).contains key=ζ) (fun k _=>ps.length - (intOf k).toNat)
 case atStart=>exact⟨rfl,0,rfl,yu _,sm⟩
 case round=>
  obtain⟨rfl,j,rfl,F,n⟩:=hrel;have b:=zb n;by_cases f:j<ps.length
  .have D:((j:Int)<(ps.length:Int))=True:=eq_true om;obtain⟨g,q,A,E,C,c0,c1⟩:=r.cells j f;injection A with he1 he2 he3;subst he1;subst he3;have d:=FT ps[j].1 key;by_cases l:ps[j].1=key
   .have p:(ps[j].1 ==key)=ξ:=by rw[yD];exact l
    have m:Hid (VP ps key=ξ):=by
     show _=_
     unfold VP;rw[List.contains_iff_mem];exact yP.2 ⟨ps[j],yt _,l⟩
    rw[p]at d;go_wp2;go_ret;exact⟨_,rfl,by rw[uh m];exact yj om,rfl⟩
   .have p:(ps[j].1 ==key)=ζ:=by rw[yd];exact l
    have s:Hid (((ps.take (j+1)).map (·.1)).contains key=ζ):=by
     show _=_
     have:=uh b;rw[yz f,yx,List.contains_append,this];simp;exact fun e=>l e.symm
    rw[p]at d;go_wp2;go_roundw
    case rel=>exact⟨trivial,j+1,by go_num,om,s⟩
    case measure=>simp[intOf];omega
  .have D:((j:Int)<(ps.length:Int))=False:=yR om;have m:Hid (VP ps key=ζ):=by
    show _=_
    unfold VP;have:=uh b
    rwa [yr om]at this
   go_wp2;go_ret;exact⟨_,rfl,by rw[uh m];rfl,rfl⟩
theorem zgO:∀ {i j:Nat} {l:List UInt8},qT s i=η (l,j)->l.length+4*(i+1)<=4*j:=by
 intro i;generalize hn:s.size - i=n;induction n using Nat.strongRecOn generalizing i with
 | _ n ih=>
  intro j l h;by_cases a:bt s i=34
  .rw[W7 a]at h;injection h with h;injection h with h1 h2;subst h1;simp;omega
  .cases hp:piece s i with
   | none=>rw[W8 a hp]at h;cases h
   | some p=>
    obtain⟨r,b⟩:=p;have f:=Wr hp;have d:=FN r;rw[Wt a hp]at h;rcases hq:qT s (i+b)with _ |⟨k,g⟩
    .rw[hq]at h;cases h
    .rw[hq]at h;injection h with h;injection h with h1 h2;have:=ih (s.size - (i+b)) om rfl hq;subst h1;simp only[yh];simp only at h2;omega
theorem FU(h:ZS s i=η (l,j)):l.length+4*(i+2)<=4*j:=by
 unfold ZS at h;split at h
 .have:=zgO h;omega
 .cases h
theorem Q0(l:List UInt8):(quoted l).length<=6*l.length+2:=by
 have:=MB l;unfold quoted;simp only[yp,yh,yE];omega
theorem EX(h:nm s i=η (l,j)):l.length+i<=j:=by
 have a:=FP h;unfold nm at h;split at h
 .injection h with h;injection h with h1 h2;subst h1;subst h2;unfold QE Zr;split
  .simp;omega
  .rw[ym,yv,Zk];omega
 .cases h
def sumT(l:List (List UInt8×List UInt8)):Nat:=(l.map fun p=>(zo p).length+1).sum
theorem EY(p:List UInt8×List UInt8):∀ l,sumT (qK p l)=(zo p).length+1+sumT l
 | []=>by simp[qK,sumT]
 | q :: r=>by
  have:=EY p r;unfold qK;split
  .simp[sumT]at *;omega
  .simp[sumT]
theorem E4:∀ (l acc:List (List UInt8×List UInt8)),sumT (l.foldl (fun acc p=>qK p acc) acc)=sumT l+sumT acc
 | [],acc=>by simp[sumT]
 | p :: l,acc=>by
  rw[ύ,E4 l,EY];simp[sumT];omega
theorem zgP(l:List (List UInt8×List UInt8)):sumT l.reverse=sumT l:=by
 unfold sumT;rw[List.map_reverse,List.sum_reverse]
theorem XG(l:List (List UInt8×List UInt8)):sumT (zI l)=sumT l:=by
 unfold zI;rw[zgP,E4];simp[sumT]
theorem Ll:∀ l:List (List UInt8),(joinT l).length=(l.map fun t=>t.length+1).sum
 | []=>rfl
 | t :: r=>by simp[joinT,Ll r];omega
theorem Pj(l:List (List UInt8)):(joinC l).length<=(l.map fun t=>t.length+1).sum:=by
 cases l with
 | nil=>simp[joinC]
 | cons t r=>simp[joinC,Ll]
theorem E6(l:List (List UInt8×List UInt8)):(qm (zI l)).length<=sumT l+2:=by
 have h:=Pj ((zI l).map zo);rw[ϊ]at h;have e:((zI l).map ((fun t=>t.length+1)∘zo)).sum=sumT l:=by rw[← XG l];rfl
 rw[e]at h;unfold qm;simp only[yp,yh,yE];omega
theorem U4(s:Bs):∀ f i,(∀ v j,pv s f i=η (v,j)->(ct v).length<=30*(j - i))/\(∀ l j,pa s f i=η (l,j)->((zt l).map fun t=>t.length+1).sum+2<=30*(j - i))/\(∀ m j,po s f i=η (m,j)->sumT (zm m)+2<=30*(j - i))
 | 0,i=>⟨fun v j h=>by simp[pv]at h,fun v j h=>by simp[pa]at h,fun v j h=>by simp[po]at h⟩
 | f+1,i=>by
  refine⟨fun v j h=>?_,fun l j h=>?_,fun m j h=>?_⟩
  .have hok:=(QX s (f+1) i).1 v j h;rw[pv]at h;have g:=Zd s (i+1);split at h
   .split at h
    .injection h with h;injection h with b h;subst b;simp[ct,zt,qe,joinC];omega
    .simp only[yA]at h;obtain⟨⟨l,k⟩,d,h⟩:=h;injection h with b h;have p:=(U4 s f (sk s (i+1))).2.1 l k d;have r:=(QX s f (sk s (i+1))).2.1 l k d;have B:=Pj (zt l);subst b;simp only[ct,qe,yp,yh,yE];simp only at h;omega
   .split at h
    .split at h
     .injection h with h;injection h with b h;subst b;simp[ct,zm,qm,zI,joinC];omega
     .simp only[yA]at h;obtain⟨⟨l,k⟩,d,h⟩:=h;injection h with b h;have p:=(U4 s f (sk s (i+1))).2.2 l k d;have r:=(QX s f (sk s (i+1))).2.2 l k d;have B:=E6 (zm l);subst b;simp only[ct];simp only at h;omega
    .split at h
     .simp only[yA]at h;obtain⟨⟨l,k⟩,d,h⟩:=h;injection h with b h;have p:=FU d;have r:=Q0 l;subst b;simp only[ct];simp only at h;omega
     .split at h
      .injection h with h;injection h with b h;subst b;simp[ct];omega
      .split at h
       .injection h with h;injection h with b h;subst b;simp[ct];omega
       .split at h
        .injection h with h;injection h with b h;subst b;simp[ct];omega
        .simp only[yA]at h;obtain⟨⟨l,k⟩,d,h⟩:=h;injection h with b h;have p:=EX d;subst b;simp only[ct];simp only at h;omega
  .rw[pa]at h;simp only[Β]at h;obtain⟨⟨v,k⟩,d,h⟩:=h;have p:=(QX s f i).1 v k d;have u:=(U4 s f i).1 v k d;have y:=Zd s k;simp only at h;split at h
   .injection h with h;injection h with b h;subst b;simp[zt];omega
   .split at h
    .simp only[yA]at h;obtain⟨⟨l,n⟩,q,h⟩:=h;injection h with b h;have r:=(QX s f _).2.1 l n q;have w:=(U4 s f _).2.1 l n q;have z:=Zd s (sk s k+1);subst b;simp only[zt,yi,yM];simp only at h;omega
    .cases h
  .rw[po]at h;simp only[Β]at h;obtain⟨⟨o,a⟩,x,h⟩:=h;have b:=Yu x;have A:=FU x;have F:=Q0 o;simp only at h;split at h
   .simp only[Β]at h;obtain⟨⟨v,k⟩,d,h⟩:=h;have p:=(QX s f _).1 v k d;have u:=(U4 s f _).1 v k d;have D:=Zd s a;have E:=Zd s (sk s a+1);have y:=Zd s k;simp only at h;split at h
    .injection h with h;injection h with b h;subst b;simp[zm,sumT,zo];omega
    .split at h
     .simp only[yA]at h;obtain⟨⟨l,n⟩,q,h⟩:=h;injection h with b h;have r:=(QX s f _).2.2 l n q;have w:=(U4 s f _).2.2 l n q;have z:=Zd s (sk s k+1);subst b;have e:sumT (zm (.cons o v l))=(zo (o,ct v)).length+1+sumT (zm l):=by simp[zm,sumT]
      have C:(zo (o,ct v)).length=(quoted o).length+1+(ct v).length:=by simp[zo];omega
      simp only at h ⊢;omega
     .cases h
   .cases h
theorem Pk{v:JV}(h:val s i=η (v,j)):(ct v).length<=30*(j - i):=(U4 s _ i).1 v j h
def VQ:Nat->Nat->List UInt8
 | 0,_=>[]
 | f+1,n=>if n<10 then [Α (48+n)]else VQ f (n / 10)++[Α (48+n % 10)]
def Zg(n:Nat):List UInt8:=VQ (n+1) n
theorem E7:∀ (f g n:Nat),n<f->n<g->VQ f n=VQ g n
 | 0,_,_,h,_=>by omega
 | _+1,0,_,_,h=>by omega
 | f+1,g+1,n,hf,hg=>by
  rw[VQ,VQ];by_cases h:n<10
  .rw[yg h,yg h]
  .rw[yf h,yf h,E7 f g (n / 10) om om]
theorem JZ(h:n<10):Zg n=[Α (48+n)]:=by unfold Zg;rw[VQ,yg h]
theorem U5(h:¬ n<10):Zg n=Zg (n / 10)++Zg (n % 10):=by
 rw[JZ (n:=n % 10) om];unfold Zg;rw[VQ,yf h,E7 n (n / 10+1) (n / 10) om om]
theorem Pl:∀ n:Nat,(Zg n).length<=n+1:=fun n=>by
 have:∀ f n,(VQ f n).length<=f:=by
  intro f;induction f with
  | zero=>intro n;simp[VQ]
  | succ f ih=>
   intro n;rw[VQ];split
   .simp
   .have:=ih (n / 10);simp;omega
 exact this (n+1) n
theorem XH:∀ (b n:Nat) (w:Wo),n<=b->n<=1000000000->δ prog 123 #[ι κ (n:Int)] w fun e w'=>e=ε (σ (ze (Zg n)))/\Below w w w':=by
 intro b;induction b with
 | zero=>
  intro n w k _;obtain rfl:n=0:=by omega
  have a:=Uz w (Zg 0) #[.int .u8 48] 1 rfl rfl;generalize Zg 0=u at *;go_in;go_wp2;go_ret;exact⟨rfl,(yI _ _).alloc (ye _) _⟩
 | succ b ih=>
  intro n w k m;by_cases h:n<10
  .have a:=Uz w (Zg n) #[.int .u8 (48+(n:Int))] 1 (by rw[JZ h];rfl) (by rw[JZ h];simp[Lib.byteCells];omega);have j:(n:Int)<10:=om;generalize Zg n=u at *;go_in;go_wp2;go_ret;exact⟨rfl,(yI _ _).alloc (ye _) _⟩
  .have j:¬ (n:Int)<10:=om;have l:(n:Int) / 10=((n / 10:Nat):Int):=om;have o:(n:Int) % 10=((n % 10:Nat):Int):=om;have f:=zb fun w=>ih (n / 10) w om om;have g:=zb fun w=>ih (n % 10) w om om;have i:Hid (ze (Zg (n / 10))++ze (Zg (n % 10))=ze (Zg n)):=zb (by rw[Vn,← U5 h]);have v:(ze (Zg (n / 10))).size<=1000000001:=by rw[zK];have:=Pl (n / 10);omega
   have x:(ze (Zg (n % 10))).size<=1000000001:=by rw[zK];have:=Pl (n % 10);omega
   have y:(9223372036854775807<(ze (Zg (n / 10))).size+(ze (Zg (n % 10))).size)=False:=yR om;generalize ze (Zg n)=u at *;generalize ze (Zg (n / 10))=p at *;generalize ze (Zg (n % 10))=s at *;generalize n / 10=q at *;generalize n % 10=r at *;go_in;go_wp2_with fail;go_call uh f _ as e w1 ⟨rfl,b1⟩;go_wp2_with fail;go_call uh g _ as e w2 ⟨rfl,b2⟩;have d:=zh b1 b2;go_wp2;go_ret;exact⟨by rw[← uh i];rfl,d⟩
theorem Lm(p:List UInt8×List UInt8):∀ l,(qK p l).Perm (p :: l)
 | []=>List.Perm.refl _
 | q :: r=>by
  unfold qK;split
  .exact ((Lm p r).cons q).trans (List.Perm.swap p q r)
  .exact List.Perm.refl _
theorem Aa:∀ (l acc:List (List UInt8×List UInt8)),(l.foldl (fun acc p=>qK p acc) acc).Perm (l++acc)
 | [],acc=>List.Perm.refl _
 | p :: l,acc=>by
  rw[ύ];exact (Aa l _).trans (((Lm p acc).append_left l).trans (List.perm_middle))
theorem qZ(l:List (List UInt8×List UInt8)):(zI l).Perm l:=by
 unfold zI;have:=Aa l [];rw[yT]at this;exact (List.reverse_perm _).trans this
theorem Ab(p:List UInt8×List UInt8):∀ l,l.Pairwise (fun a b=>b.1<=a.1)->(qK p l).Pairwise (fun a b=>b.1<=a.1)
 | [],_=>by simp[qK]
 | q :: r,h=>by
  rw[Ρ]at h;unfold qK;split
  .rename_i hlt;rw[Ρ];refine⟨fun a ha=>?_,Ab p r h.2⟩;rcases Ι.1 ((Lm p r).subset ha)with rfl | ha
   .exact List.le_of_lt hlt
   .exact h.1 a ha
  .rename_i hlt;have hqp:=List.not_lt.1 hlt;rw[Ρ,Ρ];refine⟨fun a ha=>?_,h⟩;rcases Ι.1 ha with rfl | ha
   .exact hqp
   .exact List.le_trans (h.1 a ha) hqp
theorem Ac:∀ (l acc:List (List UInt8×List UInt8)),acc.Pairwise (fun a b=>b.1<=a.1)->(l.foldl (fun acc p=>qK p acc) acc).Pairwise (fun a b=>b.1<=a.1)
 | [],acc,h=>h
 | p :: l,acc,h=>by rw[ύ];exact Ac l _ (Ab p acc h)
theorem Pm(l:List (List UInt8×List UInt8)):(zI l).Pairwise (fun a b=>a.1<=b.1):=by
 unfold zI;rw[List.pairwise_reverse];exact Ac l [] List.Pairwise.nil
theorem zgQ{l:List (List UInt8×List UInt8)}{ss:List (List UInt8)}(h:ss.Perm (l.map (·.1))):ss.mergeSort (fun x y=>decide (x<=y))=(zI l).map (·.1):=by
 have d:∀ a b c:List UInt8,decide (a<=b)=ξ->decide (b<=c)=ξ->decide (a<=c)=ξ:=fun a b c h1 h2=>by simp only[decide_eq_true_eq]at *;exact List.le_trans h1 h2
 have f:∀ a b:List UInt8,(decide (a<=b) || decide (b<=a))=ξ:=fun a b=>by simp only[Bool.or_eq_true,decide_eq_true_eq];exact List.le_total a b
 refine List.Perm.eq_of_pairwise (le:=fun a b=>decide (a<=b)=ξ) (fun a b _ _ h1 h2=>?_) (List.pairwise_mergeSort d f ss) ?_ (((List.mergeSort_perm _ _).trans h).trans ((qZ l).map _).symm)
 .simp only[decide_eq_true_eq]at h1 h2;exact List.le_antisymm h1 h2
 .rw[List.pairwise_map];exact (Pm l).imp fun h=>by simpa using h
def JM.toL:JM->List (List UInt8×JV)
 | .nil=>[]
 | .cons k v r=>(k,v) :: r.toL
theorem Qo:∀ m:JM,zm m=m.toL.map fun p=>(p.1,ct p.2)
 | .nil=>rfl
 | .cons k v r=>by rw[zm,JM.toL,yi,Qo r]
theorem Jl:∀ m:JM,QF m=m.toL.map (·.1)
 | .nil=>rfl
 | .cons k v r=>by rw[QF,JM.toL,yi,Jl r]
theorem FV:∀ (m:JM) (ks:List (List UInt8)),Z1 ks m=ζ->(QF m).Nodup/\∀ k∈QF m,k ∉ ks
 | .nil,ks,_=>⟨List.nodup_nil,fun k hk=>by simp[QF]at hk⟩
 | .cons k v r,ks,h=>by
  rw[Z1]at h;simp only[Bool.or_eq_false_iff]at h;obtain⟨⟨_,h1⟩,h2⟩:=h;obtain⟨g,f⟩:=FV r (ks++[k]) h2;rw[QF,List.nodup_cons];refine⟨⟨fun hk=>f k hk sm,g⟩,fun a b=>?_⟩;rcases Ι.1 b with rfl | b
  .intro d;rw[List.contains_eq_mem,decide_eq_false_iff_not]at h1;exact h1 d
  .intro d;exact f a b (List.mem_append_left _ d)
theorem zgR(s:Bs)(w:Wo)(hs:s.size<=1048576):
  δ prog 166 #[s] w fun e w'=>e=ε (θ (Γ s.data.toList))/\Below w w w':=by
 go_in;go_wp2;go_loopw [3] (fun i wr=>∃ j:Nat,j<=s.size/\i=ι κ j/\Γ s.data.toList=Γ (s.data.toList.drop j)/\Below w w wr) (fun i _=>s.size - (intOf i).toNat)
 case atStart=>exact⟨0,yu _,rfl,sm,yI _ _⟩
 case round=>
  obtain⟨j,o,rfl,m,k⟩:=hrel;have g:=zb m;by_cases a:j<s.size
  .have f:=zb (EA s j wr a om);have l:=U1 s j a;by_cases h:rl s j=0
   .have b:Hid (Γ s.data.toList=ζ):=by have e:=uh g;show _=_;rw[e,D3 s j a h]
    rw[h]at f;go_wp2_with fail;go_call f as e w1 ⟨rfl,b1⟩;have d:=zh k b1;go_wp2;go_ret;exact⟨by rw[uh b];rfl,d⟩
   .have b:Hid (Γ s.data.toList=Γ (s.data.toList.drop (j+rl s j))):=by have e:=uh g;show _=_;rw[e,Pb s j a h]
    generalize rl s j=n at *;have p:((n:Int) ==0)=ζ:=by rw[yd];omega
    go_wp2_with fail;go_call f as e w1 ⟨rfl,b1⟩;have d:=zh k b1;go_wp2;go_roundw
    case rel=>exact⟨j+n,om,by go_num,b,d⟩
    case measure=>simp[intOf];omega
  .have b:Hid (Γ s.data.toList=ξ):=by
    have e:=uh g;show _=_;rw[e,Kx s j a];rfl
   go_wp2;go_ret;exact⟨by rw[uh b];rfl,k⟩
theorem Yc(s:Bs)(i k:Nat):bt s (i+k)=((s.data.toList.drop i).getD k 0).toNat:=by
 unfold bt;rw[Ζ,Ζ,List.getElem?_drop]
theorem Ln(h:s.data.toList.drop i=m)(hm:m≠[]):s.size=i+m.length:=by
 have a:(s.data.toList.drop i).length=m.length:=by rw[h]
 have b:=List.length_pos_iff.2 hm;rw[yv,Zk]at a;omega
theorem Ad:∀ k:Fin 16,hx (J5.getD k.val 0).toNat=η k.val:=by decide
theorem Lo(h:r<128):enc r=[Α r]:=by
 unfold enc;rw[← Pe om om];unfold ZU qr;rw[yg h];rfl
theorem U6{x:UInt8}(hq:qB c=[92,x])(hs:JX x.toNat=η c.toNat)(h:T.data.toList.drop i=qB c++m):
  bt T i≠34/\piece T i=η (c.toNat,(qB c).length):=by
 have a:=Yc T i 0;have b:=Yc T i 1;rw[h,hq]at a b;change bt T i=92 at a;change bt T (i+1)=x.toNat at b;refine⟨om,?_⟩;unfold piece;rw[yg a,GC b hs,hq];rfl
theorem zgS(hc:KI c.toNat)(h:T.data.toList.drop i=qB c++m):
  bt T i≠34/\piece T i=η (c.toNat,(qB c).length):=by
 have n:=RL hc;have q:=hc.1;have o:=Ad ⟨c.toNat / 16,om⟩;have p:=Ad ⟨c.toNat % 16,om⟩;simp only at o p;generalize J5.getD (c.toNat / 16) 0=a at *;generalize J5.getD (c.toNat % 16) 0=b at *;have d:=Yc T i 0;have f:=Yc T i 1;have g:=Yc T i 2;have j:=Yc T i 3;have k:=Yc T i 4;have l:=Yc T i 5;rw[h,n]at d f g j k l;change bt T i=92 at d;change bt T (i+1)=117 at f;change bt T (i+2)=48 at g;change bt T (i+3)=48 at j;change bt T (i+4)=a.toNat at k;change bt T (i+5)=b.toNat at l;have e:Qn T (i+2) 4=η ((((0*16+0)*16+0)*16+c.toNat / 16)*16+c.toNat % 16):=by
  refine Xz (Xz (Xz (Xz rfl ?_) ?_) ?_) ?_
  .show hx (bt T (i+2))=_
   rw[g];rfl
  .show hx (bt T (i+3))=_
   rw[j];rfl
  .show hx (bt T (i+4))=_
   rw[k];exact o
  .show hx (bt T (i+5))=_
   rw[l];exact p
 refine⟨om,?_⟩;unfold piece;rw[yg d,EJ d f,e,n];show Qt T i _=_
 unfold Qt;rw[yg om];congr 2;omega
theorem zgT(hc:c.toNat<128)(h:T.data.toList.drop i=qB c++m):
  bt T i≠34/\piece T i=η (c.toNat,(qB c).length):=by
 by_cases b:c.toNat=34
 .exact U6 (KG om) (by rw[b];rfl) h
 by_cases d:c.toNat=92
 .exact U6 (KG om) (by rw[d];rfl) h
 by_cases f:c.toNat=8
 .exact U6 (RE om) (by rw[f];rfl) h
 by_cases g:c.toNat=9
 .exact U6 (RF om) (by rw[g];rfl) h
 by_cases j:c.toNat=10
 .exact U6 (RG om) (by rw[j];rfl) h
 by_cases k:c.toNat=12
 .exact U6 (RI om) (by rw[k];rfl) h
 by_cases l:c.toNat=13
 .exact U6 (RJ om) (by rw[l];rfl) h
 by_cases o:c.toNat<32
 .exact zgS ⟨o,f,g,j,k,l⟩ h
 have n:=OI b d om;have a:=Yc T i 0;rw[h,n]at a;change bt T i=c.toNat at a;refine⟨om,?_⟩;unfold piece;rw[yf om,yf om,yg om,a,n];rfl
theorem Ae(l:List UInt8)(n k:Nat)(m:List UInt8)(h:k<n)(hn:n<=l.length):(l.take n++m).getD k 0=l.getD k 0:=by
 rw[Ζ,Ζ,Φ (by rw[ym];omega),Ο h]
theorem Af(hi:i<s.size)(h8:¬ s[i].toNat<128)(hr:¬ rl s i=0)(h:T.data.toList.drop j=(s.data.toList.drop i).take (rl s i)++m):rl T j=rl s i:=by
 have y:=U1 s i hi;have d:(s.data.toList.drop i).length=s.size - i:=by rw[yv,Zk]
 have f:∀ k,k<rl s i->bt T (j+k)=bt s (i+k):=fun k hk=>by
  rw[Yc,Yc,h,Ae _ _ _ _ hk om]
 have B:rl s i<=T.size - j:=by
  have u:=Ln h (by
   intro e;have:=congrArg Κ e;rw[yh,ym,d]at this;simp at this;omega)
  rw[yh,ym,d]at u;omega
 have x:=Zw s i hi;have l:192<=bt s i:=by
  rcases Nat.lt_or_ge (bt s i) 192 with g | g
  .exact absurd (show rl s i=0 by unfold rl;rw[RA om g]) hr
  .exact g
 have a:=f 0 om;rw[Nat.add_zero,Nat.add_zero]at a;have p:=qo s (i+1);have r:=qo s (i+2);have z:=qo s (i+3);by_cases v:bt s i<224
 .have e:=Kz (n:=s.size - i) (b0:=bt s i) (b1:=bt s (i+1)) (b2:=bt s (i+2)) (b3:=bt s (i+3)) l v p;have b:=Kz (n:=T.size - j) (b0:=bt T j) (b1:=bt T (j+1)) (b2:=bt T (j+2)) (b3:=bt T (j+3)) om om (qo _ _);change rl s i=_ at e;change rl T j=_ at b;split at e
  .rename_i hc;have o:=f 1 om;rw[b,e,yg (by rw[a,o];omega)]
  .omega
 by_cases w:bt s i<240
 .have e:=KC (n:=s.size - i) (b0:=bt s i) (b1:=bt s (i+1)) (b2:=bt s (i+2)) (b3:=bt s (i+3)) om w p r;have b:=KC (n:=T.size - j) (b0:=bt T j) (b1:=bt T (j+1)) (b2:=bt T (j+2)) (b3:=bt T (j+3)) om om (qo _ _) (qo _ _);change rl s i=_ at e;change rl T j=_ at b;split at e
  .rename_i hc;have o:=f 1 om;have q:=f 2 om;rw[b,e,yg (by rw[a,o,q];omega)]
  .omega
 .have e:=KE (n:=s.size - i) (b0:=bt s i) (b1:=bt s (i+1)) (b2:=bt s (i+2)) (b3:=bt s (i+3)) om (qo _ _) p r z;have b:=KE (n:=T.size - j) (b0:=bt T j) (b1:=bt T (j+1)) (b2:=bt T (j+2)) (b3:=bt T (j+3)) om (qo _ _) (qo _ _) (qo _ _) (qo _ _);change rl s i=_ at e;change rl T j=_ at b;split at e
  .rename_i hc;have o:=f 1 om;have q:=f 2 om;have A:=f 3 om;rw[b,e,yg (by rw[a,o,q,A];omega)]
  .omega
theorem JE{n:List UInt8}(h:l.drop j=m++n):l.drop (j+m.length)=n:=by
 rw[← Ϗ,h,ϐ]
theorem GF(a l:List UInt8)(k:Nat)(h:k<a.length):bt (ze (a++l)) k=(a.getD k 0).toNat:=by
 unfold bt;rw[Zb];simp only[List.getD];rw[Φ h]
theorem Y2(h:n<256):(Α n).toNat=n:=by rw[Δ];omega
theorem zgU(r:Nat)(h:r<=1114111)(h':r<55296∨57344<=r)(l:List UInt8):rl (ze (ZU r++l)) 0=(ZU r).length/\0<(ZU r).length:=by
 have k:(ze (ZU r++l)).size - 0=(ZU r).length+l.length:=by rw[zK,yh];omega
 unfold rl;rw[k];by_cases d:r<128
 .have e:ZU r=[Α r]:=by unfold ZU qr;rw[yg d];rfl
  rw[e];refine⟨?_,sm⟩;rw[GF _ _ 0 sm,OH]
  .rfl
  .show (Α r).toNat<128
   rw[Y2 om];exact d
 .by_cases g:r<2048
  .have e:ZU r=[Α (192+r / 64),Α (128+r % 64)]:=by unfold ZU qr;rw[yf d,yg g];rfl
   rw[e];refine⟨?_,sm⟩;rw[GF _ _ 0 sm,GF _ _ (0+1) sm];have a:([Α (192+r / 64),Α (128+r % 64)].getD 0 0).toNat=192+r / 64:=Y2 om;have b:([Α (192+r / 64),Α (128+r % 64)].getD (0+1) 0).toNat=128+r % 64:=Y2 om;rw[a,b,Kz om om om,yg (by simp only[yp,yE];omega)];rfl
  .by_cases i:r<65536
   .have e:ZU r=[Α (224+r / 4096),Α (128+r / 64 % 64),Α (128+r % 64)]:=by unfold ZU qr;rw[yf d,yf g,yg i];rfl
    rw[e];refine⟨?_,sm⟩;rw[GF _ _ 0 sm,GF _ _ (0+1) sm,GF _ _ (0+2) sm];have a:([Α (224+r / 4096),Α (128+r / 64 % 64),Α (128+r % 64)].getD 0 0).toNat=224+r / 4096:=Y2 om;have b:([Α (224+r / 4096),Α (128+r / 64 % 64),Α (128+r % 64)].getD (0+1) 0).toNat=128+r / 64 % 64:=Y2 om;have f:([Α (224+r / 4096),Α (128+r / 64 % 64),Α (128+r % 64)].getD (0+2) 0).toNat=128+r % 64:=Y2 om;rw[a,b,f,KC om om om om,yg (by simp only[yp,yE];omega)];rfl
   .have e:ZU r=[Α (240+r / 262144),Α (128+r / 4096 % 64),Α (128+r / 64 % 64),Α (128+r % 64)]:=by unfold ZU qr;rw[yf d,yf g,yf i];rfl
    rw[e];refine⟨?_,sm⟩;rw[GF _ _ 0 sm,GF _ _ (0+1) sm,GF _ _ (0+2) sm,GF _ _ (0+3) sm];have a:([Α (240+r / 262144),Α (128+r / 4096 % 64),Α (128+r / 64 % 64),Α (128+r % 64)].getD 0 0).toNat=240+r / 262144:=Y2 om;have b:([Α (240+r / 262144),Α (128+r / 4096 % 64),Α (128+r / 64 % 64),Α (128+r % 64)].getD (0+1) 0).toNat=128+r / 4096 % 64:=Y2 om;have f:([Α (240+r / 262144),Α (128+r / 4096 % 64),Α (128+r / 64 % 64),Α (128+r % 64)].getD (0+2) 0).toNat=128+r / 64 % 64:=Y2 om;have j:([Α (240+r / 262144),Α (128+r / 4096 % 64),Α (128+r / 64 % 64),Α (128+r % 64)].getD (0+3) 0).toNat=128+r % 64:=Y2 om;rw[a,b,f,j,KE om om om om om,yg (by simp only[yp,yE];omega)];rfl
theorem Ag{a:List UInt8}(h0:0<a.length)(h:rl (ze (a++l)) 0=a.length):Γ (a++l)=Γ l:=by
 have:=Pb (ze (a++l)) 0 (by rw[zK,yh];omega) (by rw[h];omega);rw[Zb,h,Nat.zero_add,ϑ,ϐ]at this;exact this
theorem zgV(h:piece s i=η (r,n))(l:List UInt8):Γ (enc r++l)=Γ l:=by
 have fin:r<=1114111->(r<55296∨57344<=r)->Γ (enc r++l)=Γ l:=fun h1 h2=>by
  have e:enc r=ZU r:=(Pe h1 h2).symm;rw[e];obtain⟨a,b⟩:=zgU r h1 h2 l;exact Ag b a
 unfold piece at h;split at h
 .have:=EG h;exact fin this.2.2.1 this.2.2.2
 .split at h
  .cases h
  .have g:i<s.size:=Zf om;split at h
   .injection h with h;injection h with h1 h2;exact fin om om
   .rename_i h8;split at h
    .cases h
    .rename_i hr;injection h with h;injection h with h1 h2;have d:¬ s[i].toNat<128:=by rw[← Zw s i g];exact h8
     obtain⟨j,o,p,q⟩:=W6 s i g hr d;have e:enc r=(s.data.toList.drop i).take (rl s i):=by unfold enc;rw[← h1];exact j
     have k:=U1 s i g;have f:((s.data.toList.drop i).take (rl s i)).length=rl s i:=by rw[ym,yv,Zk];omega
     rw[e];refine Ag om ?_;rw[f];exact Af (m:=l) g d hr (by rw[Zb,ϑ])
theorem zgW:∀ {i j:Nat} {l:List UInt8},qT s i=η (l,j)->Γ l=ξ:=by
 intro i;generalize hn:s.size - i=n;induction n using Nat.strongRecOn generalizing i with
 | _ n ih=>
  intro j l h;by_cases a:bt s i=34
  .rw[W7 a]at h;injection h with h;injection h with h1 h2;subst h1;rfl
  .cases hp:piece s i with
   | none=>rw[W8 a hp]at h;cases h
   | some p=>
    obtain⟨r,b⟩:=p;have d:=Wr hp;rw[Wt a hp]at h;rcases hq:qT s (i+b)with _ |⟨g,f⟩
    .rw[hq]at h;cases h
    .rw[hq]at h;injection h with h;injection h with h1 h2;simp only at h1;rw[← h1,zgV hp];exact ih (s.size - (i+b)) om rfl hq
theorem Pn(h:ZS s i=η (l,j)):Γ l=ξ:=by
 unfold ZS at h;split at h
 .exact zgW h
 .cases h
theorem zgX(h:s.data.toList.drop i=m)(hm:m≠[]):i<s.size:=by
 have:=Ln h hm;have:0<m.length:=by cases m with
  | nil=>exact absurd rfl hm
  | cons _ _=>simp
 omega
theorem Lp(s T:Bs)(m:List UInt8):∀ (f pos:Nat),s.size<=pos+f->Γ (s.data.toList.drop pos)=ξ->∀ j,T.data.toList.drop j=qs (s.data.toList.drop pos)++34 :: m->qT T j=η (s.data.toList.drop pos,j+(qs (s.data.toList.drop pos)).length+1)
 | f,pos,h,hv,j,hj=>by
  by_cases hp:pos<s.size
  .cases f with
   | zero=>omega
   | succ f=>
    have hr:¬ rl s pos=0:=fun e=>by rw[D3 s pos hp e]at hv;cases hv
    have g:=hv;rw[Pb s pos hp hr]at g;by_cases k:s[pos].toNat<128
    .have u:rl s pos=1:=by unfold rl;rw[OH (by rw[Zw s pos hp];exact k)]
     rw[u]at g;have i:T.data.toList.drop j=qB s[pos]++(qs (s.data.toList.drop (pos+1))++34 :: m):=by
      rw[hj,QT s pos hp];simp[qs]
     obtain⟨p1,C⟩:=zgT k i;have q:=Lp s T m f (pos+1) om g (j+(qB s[pos]).length) (JE i);rw[Wt p1 C,q,Lo k,show Α s[pos].toNat=s[pos]from Χ,QT s pos hp];have v:(qs (s[pos] :: s.data.toList.drop (pos+1))).length=(qB s[pos]).length+(qs (s.data.toList.drop (pos+1))).length:=by simp[qs]
     rw[v];simp only[Option.map_some,Option.some.injEq,Prod.mk.injEq];exact⟨rfl,om⟩
    .obtain⟨D,w,E,F⟩:=W6 s pos hp hr k;have a:=(List.take_append_drop (rl s pos) (s.data.toList.drop pos)).symm;rw[Ϗ]at a;have n:qs (s.data.toList.drop pos)=(s.data.toList.drop pos).take (rl s pos)++qs (s.data.toList.drop (pos+rl s pos)):=by
      conv=>lhs;rw[a]
      rw[RD,RM _ w]
     have i:T.data.toList.drop j=(s.data.toList.drop pos).take (rl s pos)++(qs (s.data.toList.drop (pos+rl s pos))++34 :: m):=by
      rw[hj,n,List.append_assoc]
     have A:=U1 s pos hp;have b:((s.data.toList.drop pos).take (rl s pos)).length=rl s pos:=by rw[ym,yv,Zk];omega
     have d:=Af hp k hr i;have q:=Lp s T m f (pos+rl s pos) om g (j+rl s pos) (by have:=JE i;rwa [b]at this);have l:j<T.size:=by
      have:=Ln i (by intro e;have:=congrArg Κ e;rw[yh,b,yE]at this;omega);rw[yh,b]at this;omega
     have o:bt T j=bt s pos:=by
      have x:=Yc T j 0;have y:=Yc s pos 0;rw[Nat.add_zero]at x y;rw[x,y,i,Ae _ _ _ _ om (by rw[yv,Zk];omega)]
     have z:=Zw s pos hp;have r:¬ T[j].toNat<128:=by rw[← Zw T j l];omega
     obtain⟨B,G,H,I⟩:=W6 T j l (by rw[d];exact hr) r;have p:piece T j=η ((Utf8.decode T j).1,rl s pos):=by
      unfold piece;rw[yf om,yf om,yf om,yf (by rw[d];exact hr),d]
     rw[Wt om p,q];unfold enc;rw[B,i,d,n];simp only[Option.map_some,Option.some.injEq,Prod.mk.injEq];refine⟨?_,by rw[yh,b];omega⟩
     conv=>rhs;rw[a]
     rw[List.take_append_of_le_length om,yr om]
  .rw[Kx s pos hp]at hj ⊢;have o:=Yc T j 0;rw[hj]at o;change bt T j=34 at o;rw[W7 o];rfl
theorem GH(l:List UInt8)(T:Bs)(m:List UInt8)(hv:Γ l=ξ)(j:Nat)(hj:T.data.toList.drop j=quoted l++m):ZS T j=η (l,j+(quoted l).length):=by
 have a:T.data.toList.drop j=34 ::(qs l++34 :: m):=by rw[hj];simp[quoted]
 have b:bt T j=34:=by have:=Yc T j 0;rw[a]at this;exact this
 have h:=Lp (ze l) T m l.length 0 (by rw[zK];omega) (by rw[Zb];exact hv) (j+1) (by
  have:=JE (m:=[34]) (n:=qs l++34 :: m) a;rw[Zb];exact this)
 rw[Zb,ϑ]at h;unfold ZS;rw[yg b,h];have e:(quoted l).length=(qs l).length+2:=by simp[quoted]
 rw[e];congr 2;omega
mutual
def zy:JV->Prop
 | .nul=>True
 | .tt=>True
 | .ff=>True
 | .num l=>∃ (c:UInt8) (r:List UInt8),l=c :: r/\(c.toNat=45∨zS c.toNat=ξ)/\∀ b∈r,zS b.toNat=ξ
 | .str l=>Γ l=ξ
 | .arr l=>qP l
 | .obj m=>qL m
def qP:JL->Prop
 | .nil=>True
 | .cons v r=>zy v/\qP r
def qL:JM->Prop
 | .nil=>True
 | .cons k v r=>Γ k=ξ/\zy v/\qL r
end
theorem Ah(s:Bs):∀ f i k,i<=k->k<GD s f i->zS (bt s k)=ξ
 | 0,i,k,h1,h2=>by simp[GD]at h2;omega
 | f+1,i,k,h1,h2=>by
  rw[GD]at h2;split at h2
  .rename_i hd;by_cases e:k=i
   .subst e;exact hd
   .exact Ah s f (i+1) k om h2
  .omega
theorem Ai(h1:i<=k)(h2:k<dg s i):zS (bt s k)=ξ:=Ah s _ i k h1 h2
theorem Aj(h:c∈Zr s i j):∃ k,i<=k/\k<j/\c.toNat=bt s k:=by
 unfold Zr at h;obtain⟨n,a,rfl⟩:=List.getElem_of_mem h;rw[ym,yv]at a;refine⟨i+n,om,om,?_⟩;unfold bt;rw[Zk]at a;have b:i+n<s.data.size:=by show i+n<s.size;omega
 simp only[List.getD,List.getElem_take,List.getElem_drop,Array.getElem_toList,Array.getElem?_toList];rw[Array.getElem?_eq_getElem b];rfl
theorem Lq(h:i<j)(hi:i<s.size):Zr s i j=s.data.toList.getD i 0 :: Zr s (i+1) j:=by
 unfold Zr;rw[QT s i hi,show j - i=(j - (i+1))+1 by omega,Ξ];congr 1;rw[List.getD,yy (by rw[Zk];exact hi)];rfl
theorem zgY(h:nm s i=η (l,j)):∃ (c:UInt8) (r:List UInt8),l=c :: r/\(c.toNat=45∨zS c.toNat=ξ)/\∀ b∈r,zS b.toNat=ξ:=by
 have o:=FP h;unfold nm at h;split at h
 .rename_i hd;injection h with h;injection h with h1 h2;have n:Za s i<s.size:=Zf (by have:=QU.1 hd;omega);have m:i<=Za s i:=by unfold Za;split<;>omega
  have f:∀ k,Za s i<=k->k<qJ s i->zS (bt s k)=ξ:=fun k h1 h2=>by
   unfold qJ at h2;split at h2
   .have:k=Za s i:=om;rw[this];exact hd
   .exact Ai h1 h2
  have g:∃ (c:UInt8) (r:List UInt8),Zr s i (qJ s i)=c :: r/\(c.toNat=45∨zS c.toNat=ξ)/\∀ b∈r,zS b.toNat=ξ:=by
   refine⟨_,_,Lq om om,?_,fun b hb=>?_⟩
   .by_cases d:bt s i=45
    .exact .inl d
    .right;have e:Za s i=i:=by unfold Za;rw[yf d]
     rw[e]at hd;exact hd
   .obtain⟨k,u,p,q⟩:=Aj hb;rw[q];refine f k ?_ p;unfold Za;split<;>omega
  unfold QE at h1;split at h1
  .exact⟨48,[],h1.symm,.inr rfl,fun b hb=>by simp at hb⟩
  .obtain⟨c,r,e,a,b⟩:=g;exact⟨c,r,by rw[← h1,e],a,b⟩
 .cases h
theorem U7(s:Bs):∀ f i,(∀ v j,pv s f i=η (v,j)->zy v)/\(∀ l j,pa s f i=η (l,j)->qP l)/\(∀ m j,po s f i=η (m,j)->qL m)
 | 0,i=>⟨fun v j h=>by simp[pv]at h,fun v j h=>by simp[pa]at h,fun v j h=>by simp[po]at h⟩
 | f+1,i=>by
  refine⟨fun v j h=>?_,fun l j h=>?_,fun m j h=>?_⟩
  .rw[pv]at h;split at h
   .split at h
    .injection h with h;injection h with hv h;subst hv;rw[zy,qP];trivial
    .simp only[yA]at h;obtain⟨⟨l,k⟩,hk,h⟩:=h;injection h with hv h;subst hv;rw[zy];exact (U7 s f (sk s (i+1))).2.1 l k hk
   .split at h
    .split at h
     .injection h with h;injection h with hv h;subst hv;rw[zy,qL];trivial
     .simp only[yA]at h;obtain⟨⟨l,k⟩,hk,h⟩:=h;injection h with hv h;subst hv;rw[zy];exact (U7 s f (sk s (i+1))).2.2 l k hk
    .split at h
     .simp only[yA]at h;obtain⟨⟨l,k⟩,hk,h⟩:=h;injection h with hv h;subst hv;rw[zy];exact Pn hk
     .split at h
      .injection h with h;injection h with hv h;subst hv;rw[zy];trivial
      .split at h
       .injection h with h;injection h with hv h;subst hv;rw[zy];trivial
       .split at h
        .injection h with h;injection h with hv h;subst hv;rw[zy];trivial
        .simp only[yA]at h;obtain⟨⟨l,k⟩,hk,h⟩:=h;injection h with hv h;subst hv;rw[zy];exact zgY hk
  .rw[pa]at h;simp only[Β]at h;obtain⟨⟨v,k⟩,hk,h⟩:=h;have b:=(U7 s f i).1 v k hk;simp only at h;split at h
   .injection h with h;injection h with hv h;subst hv;rw[qP,qP];exact⟨b,trivial⟩
   .split at h
    .simp only[yA]at h;obtain⟨⟨l,n⟩,d,h⟩:=h;injection h with hv h;subst hv;rw[qP];exact⟨b,(U7 s f _).2.1 l n d⟩
    .cases h
  .rw[po]at h;simp only[Β]at h;obtain⟨⟨p,a⟩,o,h⟩:=h;have g:=Pn o;simp only at h;split at h
   .simp only[Β]at h;obtain⟨⟨v,k⟩,hk,h⟩:=h;have b:=(U7 s f _).1 v k hk;simp only at h;split at h
    .injection h with h;injection h with hv h;subst hv;rw[qL,qL];exact⟨g,b,trivial⟩
    .split at h
     .simp only[yA]at h;obtain⟨⟨l,n⟩,d,h⟩:=h;injection h with hv h;subst hv;rw[qL];exact⟨g,b,(U7 s f _).2.2 l n d⟩
     .cases h
   .cases h
theorem Ak{v:JV}(h:val s i=η (v,j)):zy v:=(U7 s _ i).1 v j h
mutual
theorem YR:∀ v:JV,zJ v<=zn v/\1<=zJ v
 | .nul=>⟨ye _,ye _⟩
 | .tt=>⟨ye _,ye _⟩
 | .ff=>⟨ye _,ye _⟩
 | .num _=>⟨ye _,ye _⟩
 | .str _=>⟨ye _,ye _⟩
 | .arr l=>by rw[zJ,zn];have:=Al l;omega
 | .obj m=>by rw[zJ,zn];have:=Am m;omega
theorem Al:∀ l:JL,YQ l<=QZ l
 | .nil=>ye _
 | .cons v r=>by rw[YQ,QZ];have:=Al r;have:=YR v;omega
theorem Am:∀ m:JM,Yb m<=Qu m
 | .nil=>ye _
 | .cons k v r=>by rw[Yb,Qu];have:=Am r;have:=YR v;omega
end
theorem zgZ(c:UInt8):1<=(qB c).length:=by
 unfold qB
 repeat' split
 all_goals simp
theorem An(l:List UInt8):l.length<=(qs l).length:=by
 induction l with
 | nil=>simp
 | cons c l ih=>
  have:=zgZ c;simp only[qs,Μ,yh,yp]at *;omega
def JL.toL:JL->List JV
 | .nil=>[]
 | .cons v r=>v :: r.toL
theorem Qa:∀ l:JL,zt l=l.toL.map ct
 | .nil=>rfl
 | .cons v r=>by rw[zt,JL.toL,yi,Qa r]
theorem U8(l:List UInt8):l.length+2<=(quoted l).length:=by
 have:=An l;simp[quoted];omega
theorem Po(p:List UInt8×List UInt8):(zo p).length=(quoted p.1).length+1+p.2.length:=by simp[zo];omega
def hold(n:Nat):Nat:=2+(n - 1)
def dl:List JV->Nat
 | []=>0
 | v :: r=>max (zJ v) (dl r)
def cl(vs:List JV):Nat:=(vs.map zn).sum
def nl(ts:List (List UInt8)):Nat:=(ts.map Κ).sum
theorem Ao(a:List JV)(v:JV):dl (a++[v])=max (dl a) (zJ v):=by
 induction a with
 | nil=>simp[dl]
 | cons x r ih=>simp only[List.cons_append,dl,ih];omega
theorem Ap(a:List JV)(v:JV):cl (a++[v])=cl a+zn v:=by simp[cl]
theorem U9:∀ l:JL,YQ l=dl l.toL
 | .nil=>rfl
 | .cons v r=>by rw[YQ,JL.toL,dl,U9 r]
theorem FW:∀ l:JL,QZ l=cl l.toL
 | .nil=>rfl
 | .cons v r=>by rw[QZ,JL.toL,FW r];simp[cl]
theorem Aq(a:List JV)(k:Nat):dl (a.take k)<=dl a:=by
 induction a generalizing k with
 | nil=>simp
 | cons x r ih=>
  cases k with
  | zero=>simp[dl]
  | succ k=>simp only[Ξ,dl];have:=ih k;omega
theorem Lr(a:List JV)(k:Nat)(h:k<a.length):zJ a[k]<=dl a:=by
 induction a generalizing k with
 | nil=>simp at h
 | cons x r ih=>
  cases k with
  | zero=>simp only[List.getElem_cons_zero,dl];omega
  | succ k=>simp only[Τ,dl];have:=ih k (by simpa using h);omega
theorem Pp(a:List Nat)(k:Nat):(a.take k).sum<=a.sum:=by
 have:a.sum=(a.take k).sum+(a.drop k).sum:=by rw[← List.sum_append,List.take_append_drop]
 omega
theorem Ww(a:List Nat)(k:Nat)(h:k<a.length):a[k]<=a.sum:=by
 have b:=Pp a (k+1);rw[yz h,List.sum_append]at b;simp at b;omega
theorem Ar:∀ ts:List (List UInt8),(joinT ts).length=ts.length+nl ts
 | []=>rfl
 | t :: r=>by
  have:=Ar r;simp[joinT,nl]at this ⊢;omega
theorem XI(ts:List (List UInt8)):(joinC ts).length+2=hold ts.length+nl ts:=by
 cases ts with
 | nil=>simp[joinC,hold,nl]
 | cons t r=>
  have:=Ar r;simp[joinC,hold,nl]at this ⊢;omega
theorem Wx:∀ m:JM,Yb m=dl (m.toL.map (·.2))
 | .nil=>rfl
 | .cons k v r=>by rw[Yb,JM.toL,yi,dl,Wx r]
theorem Ka:∀ m:JM,Qu m=(m.toL.map fun q=>zn q.2).sum
 | .nil=>rfl
 | .cons k v r=>by rw[Qu,JM.toL,yi,yM,Ka r]
def qn(q:List UInt8×JV):Nat:=(quoted q.1).length+1+(ct q.2).length
theorem Y3(m:JM):(ct (.obj m)).length=hold m.toL.length+(m.toL.map qn).sum:=by
 show (qm (zI (zm m))).length=_
 have h:=XI ((zI (zm m)).map zo);have a:((zI (zm m)).map zo).length=m.toL.length:=by rw[yl,(qZ _).length_eq,Qo,yl]
 have b:nl ((zI (zm m)).map zo)=(m.toL.map qn).sum:=by
  unfold nl;have p:=(((qZ (zm m)).map zo).map Κ).sum_nat;rw[p,Qo];simp only[ϊ];congr 1;apply Υ;intro q _;simp only[Function.comp_apply,qn];exact Po _
 rw[a,b]at h;simp[qm];omega
theorem Wy(f:List UInt8×JV->Nat){qs:List (List UInt8×JV)}{q:List UInt8×JV}(h:q∈qs):f q<=(qs.map f).sum:=by
 obtain⟨j,a,rfl⟩:=List.getElem_of_mem h;have:=Ww (qs.map f) j (by simpa using a);simpa using this
theorem As:∀ L:List zx,(L.flatMap Zc).length=L.length*2
 | []=>rfl
 | p :: r=>by rw[Μ,yh,As r];simp[Zc];omega
theorem zg0(L:List zx)(j:Nat)(p:zx)(h:j<L.length):((L.flatMap Zc).set (j*2) (ze p.1)).set (j*2+1) (ze p.2)=(L.set j p).flatMap Zc:=by
 induction L generalizing j with
 | nil=>simp at h
 | cons q r ih=>
  cases j with
  | zero=>rfl
  | succ j=>
   have:=ih j (by simpa using h);rw[List.set_cons_succ,Μ,Μ,← this,show (j+1)*2=j*2+2 from by omega];rfl
theorem PR.set{L:List zx}(h:PR w B (ς (η g) n cap) L)(hn':n=L.length)(j:Nat)(hj:j<L.length)(p:zx):
  PR ((w.setCell ⟨g,j*2,ν⟩ (ze p.1)).setCell ⟨g,j*2+1,ν⟩ (ze p.2)) B (ς (η g) n cap) (L.set j p):=by
 subst hn';obtain⟨v,⟨f,u⟩ |⟨s,d,a,f,l,o,q,m,b,r⟩⟩:=h
 .omega
 .injection f with hv1 hv2 hv3;injection hv1 with hv1;injection hv1 with hv1;subst hv1;subst hv3;have i:=heap_setCell_same w g (j*2) a 120 (ze p.1) o;have k:=heap_setCell_same _ g (j*2+1) _ 120 (ze p.2) i;refine⟨As _,.inr ⟨g,cap,_,sm,l,k,by simpa using q,m,by simp[b],?_⟩⟩;rw[← zg0 L j p hj,← r,List.length_set,Array.toList_setIfInBounds,Array.toList_setIfInBounds,List.take_set,List.take_set]
theorem zg1(A:List zx):A=[]∨∃ A' q,A=A'++[q]:=by
 rcases List.eq_nil_or_concat A with h |⟨A',q,h⟩
 .exact .inl h
 .exact .inr ⟨A',q,by rw[h];simp⟩
theorem W9(h:Below B w w')(n:Nat):Below B w (w'.drewN n):=⟨h.os,h.tape,h.output,h.size,h.block⟩
theorem PR.fz{L:List zx}(h:PR w B (ς (η g) n cap) L)(o:Nat):w.frozen? ⟨g,o,ν⟩=ζ:=by
 obtain⟨l,⟨a,j⟩ |⟨i,b,d,a,k,f,_⟩⟩:=h
 .cases a
 .injection a with hv1 hv2 hv3;injection hv1 with hv1;injection hv1 with hv1;subst hv1;exact yJ f o
theorem PR.fz1{L:List zx}(h:PR w B (ς (η g) n cap) L)(o o':Nat)(v:ω):(w.setCell ⟨g,o,ν⟩ v).frozen? ⟨g,o',ν⟩=ζ:=by
 obtain⟨l,⟨b,j⟩ |⟨i,d,a,b,k,f,_⟩⟩:=h
 .cases b
 .injection b with hv1 hv2 hv3;injection hv1 with hv1;injection hv1 with hv1;subst hv1;exact yJ (heap_setCell_same w g o a 120 v f) o'
theorem PR.cell1{L:List zx}(h:PR w B (ς (η g) n cap) L)(o o':Nat)(v u:ω)(ho:o≠o')(hc:w.cell? ⟨g,o',ν⟩=η u):(w.setCell ⟨g,o,ν⟩ v).cell? ⟨g,o',ν⟩=η u:=by
 obtain⟨l,⟨b,j⟩ |⟨i,d,a,b,k,f,_⟩⟩:=h
 .cases b
 .injection b with hv1 hv2 hv3;injection hv1 with hv1;injection hv1 with hv1;subst hv1;rw[yG f]at hc;rw[yG (heap_setCell_same w g o a 120 v f),Array.getElem?_setIfInBounds_ne ho,hc]
theorem PR.cellsAt{L:List zx}(h:PR w B (ς (η g) n cap) L)(j:Nat)(hj:j<L.length)(p:zx)(hp:L[j]=p):
  w.cell? ⟨g,j*2,ν⟩=η (ze p.1)/\w.cell? ⟨g,j*2+1,ν⟩=η (ze p.2)/\g<w.heap.size:=by
 obtain⟨k,f,i,_,d,a,b⟩:=h.cells j hj;injection i with he1 he2 he3;injection he1 with he1;injection he1 with he1;subst he1;subst hp;exact⟨a,b,d⟩
theorem Ua:(prog.info? 120).map (fun i=>(i.zero,i.size,i.bytes))=η (η (γ #[ByteArray.empty,ByteArray.empty]),2,32):=by kernel_rfl
def RR(ps:List zx)(j:Nat):List zx:=(ps.take j).foldl (fun acc p=>qK p acc) []
theorem At(ps:List zx)(j:Nat)(h:j<ps.length):RR ps (j+1)=qK ps[j] (RR ps j):=by
 unfold RR;rw[yz h,List.foldl_append];rfl
theorem zg2(ps:List zx)(j:Nat)(h:ps.length<=j):(RR ps j).reverse=zI ps:=by
 unfold RR zI;rw[yr h]
theorem Au(p:zx):∀ l,(qK p l).length=l.length+1
 | []=>rfl
 | q :: r=>by unfold qK;split<;>simp[Au p r]
theorem Av(ps:List zx):∀ j,j<=ps.length->(RR ps j).length=j
 | 0,_=>by simp[RR]
 | j+1,h=>by rw[At ps j om,Au,Av ps j om]
theorem Yd(w:Wo)(t:TypeId)(x y:ω):∀ j u,[x,y][j]?=η u->(w.alloc (χ #[x,y] t)).cell? ((w:Addr).add j)=η u:=Vs w t x y
theorem XJ(B:Nat)(v:ω)(ps:List zx)(w:Wo)(h:PR w B v ps)(hl:ps.length<=40000000):
  δ prog 110 #[v] w fun e w'=>∃ v',e=ε v'/\PR w' w v' (zI ps)/\Below w w w':=by
 obtain⟨i0,hi0,hz0,hz1,hz2⟩:=info_parts Ua;obtain⟨x,len,E,rfl,d⟩:∃ x len E,v=ς x len E/\len=ps.length:=by
  rcases h.2 with ⟨hv,h0⟩ |⟨g,E,cur,hv,_⟩
  .exact⟨_,_,_,hv,h0.symm⟩
  .exact⟨_,_,_,hv,rfl⟩
 subst d;have HP:=zb h;go_in;go_wp2_with fail;go_loopw [3,4] (fun r k wr=>∃ j:Nat,k=ι κ (j:Int)/\j<=ps.length/\PR wr w r (RR ps j).reverse/\Below w w wr) (fun _ k _=>ps.length - (intOf k).toNat)
 case atStart=>
  exact⟨0,rfl,yu _,⟨rfl,.inr ⟨w,0,#[],rfl,ye _,yH w _,ye _,mo,rfl,rfl⟩⟩,(yI _ _).alloc (ye _) _⟩
 case round=>
  obtain⟨j,rfl,hj,y,hb⟩:=hrel;have W:=zb hb;have U:=hb.size;by_cases Q:j<ps.length
  .have t1:((j:Int)<(ps.length:Int))=True:=eq_true om;obtain⟨g,cap',he,hgB,O,c0',c1'⟩:=HP.cells j Q;injection he with he1 he2 he3;subst he1;subst he3;have c0:=(W.cell (p:=⟨g,j*2,ν⟩) O).trans c0';have c1:=(W.cell (p:=⟨g,j*2+1,ν⟩) O).trans c1';have HS:=zb (At ps j Q);have d:=Av ps j hj;have HLEN:=zb d;generalize ps[j]=p at *;generalize hR:RR ps j=R at *;have F:R.reverse.length=j:=by rw[List.length_reverse];exact d
   have l:wr.ownsRow w 120 2 u3 R.reverse.length (R.reverse.flatMap Zc):=y;go_wp2_with (at_builtin;refine wpList_append_own _ rfl (.tmp 14) (.tmp 19) 116 rfl w 120 i0 (γ #[ByteArray.empty,ByteArray.empty]) 2 32 underlying116 hi0 hz0 hz1 hz2 rfl dc _ _ _ rfl (l.alloc _) wr 1 1 (Zc p) rfl rfl (Yd _ _ _ _) (fun u hu=>by {simp[Zc]at hu;rcases hu with rfl | rfl<;>rfl}) mo om so ?_;intro v1 w1 z N _;have Y:=zb ((W.alloc U _).grown N so (fun k hk=>(l.lt k hk).1));have X:PR w1 w v1 (R.reverse++[p]):=(by unfold PR;rw[yh,List.flatMap_append];simpa using z);have hL1:(R.reverse++[p]).length=j+1:=(by rw[yh,F];rfl);obtain⟨i,s,T,b,_,_,_⟩:=X.cells j om;rw[hL1]at T;subst T;have HP1:=zb X;clear z N X);go_loopw [5] (fun k V=>∃ (A C:List zx),k=ι κ (A.length:Int)/\A.length+C.length=j/\PR V w (ς (η i) (j+1) s) (A++p :: C)/\Below w w V/\qK p R=C.reverse++qK p A.reverse) (fun k _=>(intOf k).toNat)
   case atStart=>
    exact⟨R.reverse,[],by rw[F],by simpa using F,HP1,Y,sm⟩
   case round=>
    obtain⟨A,C,rfl,J,hP,K,S⟩:=hrel;have HI:=zb S;have f:=zb hP;have D:=zb K;have hxs:=K.size;rcases zg1 A with rfl |⟨a,q,rfl⟩
    .have HF:Hid (([]++p :: C)=(RR ps (j+1)).reverse):=by
      show _=_
      rw[uh HS,uh HI];simp[qK]
     have t2:(0<(0:Int))=False:=sm;simp only[yE,Int.natCast_zero];go_wp2_with fail;go_quiet (fail);go_wp2;exact⟨⟨j+1,by go_num,om,by rw[← uh HF];exact uh f,W9 D _⟩,by simp[intOf];omega⟩
    .have hm:(a++[q]).length=a.length+1:=sm;rw[hm];rw[hm]at J;have L:((a++[q])++p :: C).length=j+1:=by simp at J ⊢;omega
     have ep:((a++[q])++p :: C)[a.length+1]'om=p:=sm;have eq:((a++[q])++p :: C)[a.length]'om=q:=sm;obtain⟨p0,p1,P⟩:=f.cellsAt (a.length+1) om p ep;obtain⟨q0,q1,_⟩:=f.cellsAt a.length om q eq;have HSW:Hid (((((a++[q])++p :: C).set (a.length+1) q).set a.length p)=a++p ::(q :: C)):=by
      show _=_
      simp
     have hmj:a.length+1<=j:=om;have H:Hid (qK p R=C.reverse++qK p (q :: a.reverse)):=by
      show _=_
      rw[uh HI];simp
     clear ep eq HI;generalize hmm:a.length=m at *;have t2:((0:Int)<(m:Int)+1)=True:=eq_true om;have t3:(0:Int)<=(m:Int):=om;have t4:(m:Int)+1<=(j:Int):=om;by_cases n:p.1<q.1
     .have hlt:Op.bytesLess (ze p.1).toList (ze q.1).toList=ξ:=by
       rw[bytesLess_eq,Ε,Ε,Zb,Zb];exact yj n
      have HI3:Hid (qK p R=(q :: C).reverse++qK p a.reverse):=by
       show _=_
       rw[uh H,qK,yg n];simp
      go_wp2_with fail;go_quiet (fail);have P0:(wr.drewN nq).cell? ⟨i,(m+1)*2,ν⟩=η (ze p.1):=p0;have X:(wr.drewN nq).cell? ⟨i,(m+1)*2+1,ν⟩=η (ze p.2):=p1;have PX:Hid (PR (wr.drewN nq) w (ς (η i) (j+1) s) (a++[q]++p :: C)):=uh f;have BX:Hid (Below w w (wr.drewN nq)):=W9 D _;have hgx:i<(wr.drewN nq).heap.size:=P;have hxs':w.heap.size<=(wr.drewN nq).heap.size:=hxs;generalize wr.drewN nq=V at *;have G:=uh PX;obtain⟨q0,q1,_⟩:=G.cellsAt m om q (by subst hmm;simp);obtain⟨pp0,pp1,_⟩:=G.cellsAt (m+1) om p (by subst hmm;simp);have f0:=G.fz ((m+1)*2);have f1:=G.fz1 ((m+1)*2) ((m+1)*2+1) (ze q.1);have d1:=G.cell1 ((m+1)*2) ((m+1)*2+1) (ze q.1) _ om pp1;have I:=G.set L.symm (m+1) om q;have M:((a++[q]++p :: C).set (m+1) q).length=j+1:=by rw[List.length_set];exact L
      obtain⟨r0,r1,_⟩:=I.cellsAt m om q (by subst hmm;simp);have f2:=I.fz (m*2);have f3:=I.fz1 (m*2) (m*2+1) (ze p.1);have d3:=I.cell1 (m*2) (m*2+1) (ze p.1) _ om r1;have PC:=I.set M.symm m om p;rw[uh HSW]at PC;have BA:=(((BX.setCell (p:=⟨i,(m+1)*2,ν⟩) b (ze q.1)).setCell (p:=⟨i,(m+1)*2+1,ν⟩) b (ze q.2)).setCell (p:=⟨i,m*2,ν⟩) b (ze p.1)).setCell (p:=⟨i,m*2+1,ν⟩) b (ze p.2);have HPC:=zb fun o=>PC.below (ZF _ o);have Z:=zb fun o=>BA.alloc BA.size o;have hne:¬ V.heap.size=i:=om;have hne':¬ i=V.heap.size:=om;go_wp2;go_roundw
      case rel=>exact⟨a,q :: C,by rw[hmm],so,uh HPC _,uh Z _,HI3⟩
      case measure=>simp[intOf]
     .have hlt:Op.bytesLess (ze p.1).toList (ze q.1).toList=ζ:=by
       rw[bytesLess_eq,Ε,Ε,Zb,Zb];exact yk n
      have HF:Hid ((a++[q]++p :: C)=(RR ps (j+1)).reverse):=by
       show _=_
       rw[uh HS,uh H,qK,yf n];simp
      go_wp2_with fail;go_quiet (fail);go_wp2;exact⟨⟨j+1,by go_num,om,by rw[← uh HF];exact uh f,W9 D _⟩,by simp[intOf];omega⟩
  .have t1:((j:Int)<(ps.length:Int))=False:=yR om;have HE:=zb (zg2 ps j om);go_wp2;go_ret;exact⟨_,rfl,by rw[← uh HE];exact y,W⟩
def Wz(c:Nat):Bool:=c ==91 || c ==123
def Kb(c:Nat):Bool:=c ==93 || c ==125
def Yv(T:Bs)(i:Nat):Option Nat:=if bt T i=34 then (ZS T i).map (·.2)else η (i+1)
def JF(c op:Nat):Option Nat:=if Wz c then η (op+1)else if Kb c then (if op=0 then ν else η (op - 1))else η op
def VT(T:Bs)(i:Nat):Bool:=decide (i=T.size) || bt T i ==44 || bt T i ==93 || bt T i ==125
def Qb(T:Bs):Nat->Nat->Nat->Option Nat
 | 0,_,_=>ν
 | f+1,op,i=>if i<T.size then (Yv T i).bind fun j=>(JF (bt T i) op).bind fun o=>if o=0/\VT T j=ξ then η j else Qb T f o j else ν
def Yw(T:Bs):Nat->Nat->Nat->Nat->Option Nat
 | 0,_,_,_=>ν
 | f+1,op,mo,i=>if i<T.size then (Yv T i).bind fun j=>(JF (bt T i) op).bind fun o=>Yw T f o (max mo o) j else η mo
section
variable {T:Bs}
theorem ZK(h:T.data.toList.drop i=c :: m):i<T.size/\bt T i=c.toNat/\T.data.toList.drop (i+1)=m:=by
 refine⟨zgX h sm,?_,?_⟩
 .have:=Yc T i 0;rw[h]at this;exact this
 .exact JE (m:=[c]) (n:=m) h
def Ub(m:List UInt8):Prop:=m=[]∨∃ c r,m=c :: r/\(c.toNat=44∨c.toNat=93∨c.toNat=125)
theorem Ls(h:T.data.toList.drop i=m)(hi:i<=T.size)(hm:Ub m):VT T i=ξ:=by
 unfold VT;rcases hm with rfl |⟨c,r,rfl,a⟩
 .have:i=T.size:=by
   have:=congrArg Κ h;rw[yv,Zk,yE]at this;omega
  simp[this]
 .obtain⟨_,b,_⟩:=ZK h;rw[b];rcases a with a | a | a<;>simp[a]
theorem zg3(h:T.data.toList.drop i=c :: m)(h1:c.toNat≠44)(h2:c.toNat≠93)(h3:c.toNat≠125):VT T i=ζ:=by
 obtain⟨b,a,_⟩:=ZK h;unfold VT;rw[a];simp[h1,h2,h3];omega
def VU(c:UInt8):Prop:=c.toNat≠34/\c.toNat≠91/\c.toNat≠123/\c.toNat≠93/\c.toNat≠125
theorem Pq(h:VU c)(op:Nat):JF c.toNat op=η op:=by
 obtain⟨_,a,b,d,e⟩:=h;simp[JF,Wz,Kb,a,b,d,e]
theorem GI(hb:bt T i=c.toNat)(h:c.toNat≠34):Yv T i=η (i+1):=by unfold Yv;rw[yf om]
def ZN(T:Bs)(t:List UInt8):Prop:=∀ op i m f k,1<=op->T.data.toList.drop i=t++m->Qb T f op (i+t.length)=η k->∃ f',Qb T f' op i=η k
def J0(T:Bs)(t:List UInt8):Prop:=∀ i m,T.data.toList.drop i=t++m->Ub m->∃ f,Qb T f 0 i=η (i+t.length)
theorem ZN.nil:ZN T []:=fun _ _ _ f _ _ _ h=>⟨f,h⟩
theorem ZN.app{a b:List UInt8}(ha:ZN T a)(hb:ZN T b):ZN T (a++b):=fun op i m f k ho h he=>by
 rw[List.append_assoc]at h;rw[yh,← Nat.add_assoc]at he;obtain⟨d,g⟩:=hb op (i+a.length) m f k ho (JE h) he;exact ha op i (b++m) d k ho h g
theorem ZN.one(hc:VU c):ZN T [c]:=fun op i m f k ho h he=>by
 obtain⟨b,a,_⟩:=ZK h;refine⟨f+1,?_⟩;rw[Qb,yg b,GI a hc.1,a,Pq hc];simp only[yB];rw[yf om];exact he
theorem ZN.plain:∀ {t:List UInt8},(∀ c∈t,VU c)->ZN T t
 | [],_=>ZN.nil
 | c :: _,h=>ZN.app (a:=[c]) (ZN.one (h c yq)) (ZN.plain fun d hd=>h d (yw _ hd))
theorem Lt(hv:Γ l=ξ)(h:T.data.toList.drop i=quoted l++m):i<T.size/\bt T i=34/\Yv T i=η (i+(quoted l).length):=by
 have b:T.data.toList.drop i=34 ::(qs l++34 :: m):=by rw[h];simp[quoted]
 obtain⟨d,a,_⟩:=ZK b;refine⟨d,a,?_⟩;unfold Yv;rw[yg (by rw[a];rfl),GH l T m hv i h];rfl
theorem Lu(op:Nat):JF 34 op=η op:=rfl
theorem ZN.quoted(hv:Γ l=ξ):ZN T (Go.Proofs.YtgoafoojaceadaaGreatDoor.quoted l):=fun op i m f k ho h he=>by
 obtain⟨b,a,d⟩:=Lt hv h;refine⟨f+1,?_⟩;rw[Qb,yg b,d,a,Lu];simp only[yB];rw[yf om];exact he
theorem J0.quoted(hv:Γ l=ξ):J0 T (Go.Proofs.YtgoafoojaceadaaGreatDoor.quoted l):=fun i m h hs=>by
 obtain⟨f,b,g⟩:=Lt hv h;have d:=JE h;have a:i+(Go.Proofs.YtgoafoojaceadaaGreatDoor.quoted l).length<=T.size:=by
  have:=congrArg Κ h;rw[yv,Zk,yh]at this;omega
 refine⟨1,?_⟩;rw[Qb,yg f,g,b,Lu];simp only[yB];rw[yg ⟨trivial,Ls d a hs⟩]
theorem J0.plain:∀ {t:List UInt8},t≠[]->(∀ c∈t,VU c/\c.toNat≠44)->J0 T t
 | [],h,_=>absurd rfl h
 | [c],_,hc=>fun i m h hs=>by
  obtain⟨hl,hb,hd⟩:=ZK (T:=T) (m:=m) h;have a:=hc c yq;refine⟨1,?_⟩;rw[Qb,yg hl,GI hb a.1.1,hb,Pq a.1];simp only[yB];rw[yg ⟨trivial,Ls hd hl hs⟩];rfl
 | c :: d :: r,_,hc=>fun i m h hs=>by
  obtain⟨hl,hb,hd⟩:=ZK (T:=T) (m:=d :: r++m) h;have a:=hc c yq;have b:=hc d (yw _ yq);obtain⟨f,g⟩:=J0.plain (t:=d :: r) sm (fun x hx=>hc x (yw _ hx)) (i+1) m hd hs;refine⟨f+1,?_⟩;rw[Qb,yg hl,GI hb a.1.1,hb,Pq a.1];simp only[yB];rw[yf (by rw[zg3 (m:=r++m) hd b.2 b.1.2.2.2.1 b.1.2.2.2.2];simp),g];simp only[yp];congr 1;omega
theorem ZN.wrap{t:List UInt8}{a b:UInt8}(ha:Wz a.toNat=ξ)(hb:Kb b.toNat=ξ)(ht:ZN T t):ZN T (a ::(t++[b]))/\J0 T (a ::(t++[b])):=by
 have l:a.toNat≠34:=by intro e;rw[e]at ha;cases ha
 have n:b.toNat≠34:=by intro e;rw[e]at hb;cases hb
 have p:Wz b.toNat=ζ:=by
  simp only[Kb,Bool.or_eq_true,yD]at hb;rcases hb with h | h<;>simp[Wz,h]
 refine⟨fun op i m f k ho h he=>?_,fun i m h hs=>?_⟩
 .have v:T.data.toList.drop i=a ::(t++(b :: m)):=by rw[h];simp
  obtain⟨x,d,q⟩:=ZK v;obtain⟨j,g,r⟩:=ZK (JE q);have s:∃ f',Qb T f' (op+1) (i+1+t.length)=η k:=by
   refine⟨f+1,?_⟩;rw[Qb,yg j,GI g n,g];simp only[yB,JF,p,hb,if_true,Bool.false_eq_true,if_false];rw[yf om];simp only[yB,Nat.add_sub_cancel];rw[yf om];rw[show i+1+t.length+1=i+(a ::(t++[b])).length by simp;omega];exact he
  obtain⟨y,w⟩:=s;obtain⟨u,o⟩:=ht (op+1) (i+1) (b :: m) y k om q w;refine⟨u+1,?_⟩;rw[Qb,yg x,GI d l,d];simp only[yB,JF,ha,if_true];rw[yf om];exact o
 .have v:T.data.toList.drop i=a ::(t++(b :: m)):=by rw[h];simp
  obtain⟨x,d,q⟩:=ZK v;obtain⟨j,g,r⟩:=ZK (JE q);have s:Qb T 1 1 (i+1+t.length)=η (i+(a ::(t++[b])).length):=by
   rw[Qb,yg j,GI g n,g];simp only[yB,JF,p,hb,if_true,Bool.false_eq_true,if_false];rw[yf om];simp only[yB,Nat.sub_self];rw[yg ⟨trivial,Ls r j hs⟩];simp;omega
  obtain⟨u,o⟩:=ht 1 (i+1) (b :: m) 1 _ om q s;refine⟨u+1,?_⟩;rw[Qb,yg x,GI d l,d];simp only[yB,JF,ha,if_true];rw[yf om];exact o
theorem ZN.joinT:∀ {ts:List (List UInt8)},(∀ t∈ts,ZN T t)->ZN T (Go.Proofs.YtgoafoojaceadaaGreatDoor.joinT ts)
 | [],_=>ZN.nil
 | t :: r,h=>ZN.app (a:=[44]) (ZN.one ⟨dc,dc,dc,dc,dc⟩) (ZN.app (h t yq) (ZN.joinT fun x hx=>h x (yw _ hx)))
theorem ZN.joinC{ts:List (List UInt8)}(h:∀ t∈ts,ZN T t):ZN T (Go.Proofs.YtgoafoojaceadaaGreatDoor.joinC ts):=by
 cases ts with
 | nil=>exact ZN.nil
 | cons t r=>exact ZN.app (h t yq) (ZN.joinT fun x hx=>h x (yw _ hx))
theorem XK(h:zy (.num l)):l≠[]/\∀ c∈l,VU c/\c.toNat≠44:=by
 rw[zy]at h;obtain⟨c,r,rfl,b,f⟩:=h;refine⟨sm,fun d a=>?_⟩;have:d.toNat=45∨zS d.toNat=ξ:=by
  rcases Ι.1 a with rfl | a
  .exact b
  .exact .inr (f d a)
 have g:=this.imp id QU.1;exact⟨⟨om,om,om,om,om⟩,om⟩
theorem XL(h:l∈[[110,117,108,108],[116,114,117,101],([102,97,108,115,101]:List UInt8)]):l≠[]/\∀ c∈l,VU c/\c.toNat≠44:=by
 unfold VU;revert l;decide
mutual
theorem Pr:∀ v:JV,zy v->ZN T (ct v)/\J0 T (ct v)
 | .nul,_=>by
  have:=XL (l:=[110,117,108,108]) sm;exact⟨ZN.plain fun c hc=>(this.2 c hc).1,J0.plain this.1 this.2⟩
 | .tt,_=>by
  have:=XL (l:=[116,114,117,101]) sm;exact⟨ZN.plain fun c hc=>(this.2 c hc).1,J0.plain this.1 this.2⟩
 | .ff,_=>by
  have:=XL (l:=[102,97,108,115,101]) sm;exact⟨ZN.plain fun c hc=>(this.2 c hc).1,J0.plain this.1 this.2⟩
 | .num l,h=>by
  have:=XK h;exact⟨ZN.plain fun c hc=>(this.2 c hc).1,J0.plain this.1 this.2⟩
 | .str l,h=>by
  rw[zy]at h;exact⟨ZN.quoted h,J0.quoted h⟩
 | .arr l,h=>by
  rw[zy]at h;exact ZN.wrap rfl rfl (ZN.joinC (Aw l h))
 | .obj m,h=>by
  rw[zy]at h;refine ZN.wrap rfl rfl (ZN.joinC fun t ht=>?_);obtain⟨p,hp,rfl⟩:=yP.1 ht;exact Ax m h p ((qZ _).subset hp)
theorem Aw:∀ l:JL,qP l->∀ t∈zt l,ZN T t
 | .nil,_,t,ht=>by simp[zt]at ht
 | .cons v r,h,t,ht=>by
  rw[qP]at h;rw[zt]at ht;rcases Ι.1 ht with e | ht
  .rw[e];exact (Pr v h.1).1
  .exact Aw r h.2 t ht
theorem Ax:∀ m:JM,qL m->∀ p∈zm m,ZN T (zo p)
 | .nil,_,p,hp=>by simp[zm]at hp
 | .cons k v r,h,p,hp=>by
  rw[qL]at h;rw[zm]at hp;rcases Ι.1 hp with e | hp
  .rw[e];exact ZN.app (ZN.quoted h.1) (ZN.app (a:=[58]) (ZN.one ⟨dc,dc,dc,dc,dc⟩) (Pr v h.2.1).1)
  .exact Ax r h.2.2 p hp
end
end
def qU:Nat->List (List UInt8)->List (List UInt8×List UInt8)
 | _,[]=>[]
 | b,t :: r=>(Zg b,t) :: qU (b+1) r
theorem Ay:∀ (a:List (List UInt8)) (b:Nat) (t:List UInt8),qU b (a++[t])=qU b a++[(Zg (b+a.length),t)]
 | [],b,t=>rfl
 | x :: r,b,t=>by
  simp only[List.cons_append,qU,Ay r (b+1) t,yp];rw[show b+1+r.length=b+(r.length+1) by omega]
theorem WA:∀ (a:List (List UInt8)) (b:Nat),(qU b a).length=a.length
 | [],_=>rfl
 | _ :: r,b=>by simp[qU,WA r (b+1)]
def zl:JV->List (List UInt8×List UInt8)
 | .arr l=>qU 0 (zt l)
 | .obj m=>zI (zm m)
 | _=>[]
theorem Ps:∀ v:JV,zy v->ct v≠[]
 | .nul,_=>by simp[ct]
 | .tt,_=>by simp[ct]
 | .ff,_=>by simp[ct]
 | .num l,h=>(XK h).1
 | .str l,_=>by simp[ct,quoted]
 | .arr l,_=>by simp[ct,qe]
 | .obj m,_=>by simp[ct,qm]
theorem Pt(T:Bs):∀ l:JL,qP l->∀ t∈zt l,J0 T t/\t≠[]
 | .nil,_,t,ht=>by simp[zt]at ht
 | .cons v r,h,t,ht=>by
  rw[qP]at h;rw[zt]at ht;rcases Ι.1 ht with e | ht
  .rw[e];exact⟨(Pr v h.1).2,Ps v h.1⟩
  .exact Pt T r h.2 t ht
theorem Pu(T:Bs):∀ m:JM,qL m->∀ p∈zm m,J0 T p.2/\p.2≠[]/\Γ p.1=ξ
 | .nil,_,p,hp=>by simp[zm]at hp
 | .cons k v r,h,p,hp=>by
  rw[qL]at h;rw[zm]at hp;rcases Ι.1 hp with e | hp
  .rw[e];exact⟨(Pr v h.2.1).2,Ps v h.2.1,h.1⟩
  .exact Pu T r h.2.2 p hp
def pk(cs:List (List UInt8))(k:Nat):Nat:=1+(joinC (cs.take k)).length+(if k=0 then 0 else 1)
theorem Az:∀ (cs:List (List UInt8)) (k:Nat),(h:k<cs.length)->joinT cs=joinT (cs.take k)++44 ::(cs[k]++joinT (cs.drop (k+1)))
 | t :: r,0,_=>by simp[joinT]
 | t :: r,k+1,h=>by
  have:=Az r k (by simpa using h);simp only[Ξ,joinT,Τ,List.drop_succ_cons];rw[this];simp
theorem zg4(cs:List (List UInt8))(k:Nat)(h:k<cs.length):joinC cs=(joinC (cs.take k)++(if k=0 then []else [44]))++(cs[k]++joinT (cs.drop (k+1))):=by
 cases cs with
 | nil=>simp at h
 | cons t r=>
  cases k with
  | zero=>simp[joinC]
  | succ k=>
   have:=Az r k (by simpa using h);simp only[joinC,Ξ,Τ,List.drop_succ_cons];rw[this];simp
theorem Pv(cs:List (List UInt8))(c:UInt8)(hc:c.toNat=93∨c.toNat=125):Ub (joinT cs++[c]):=by
 cases cs with
 | nil=>exact .inr ⟨c,[],rfl,.inr hc⟩
 | cons t r=>exact .inr ⟨44,_,rfl,.inl rfl⟩
theorem FX{a:UInt8}(hT:T.data.toList=a ::(joinC cs++[c]))(k:Nat)(h:k<cs.length):T.data.toList.drop (pk cs k)=cs[k]++(joinT (cs.drop (k+1))++[c]):=by
 have e:T.data.toList=(a ::(joinC (cs.take k)++(if k=0 then []else [44])))++(cs[k]++(joinT (cs.drop (k+1))++[c])):=by
  rw[hT,zg4 cs k h];simp
 have b:(a ::(joinC (cs.take k)++(if k=0 then []else [44]))).length=pk cs k:=by
  unfold pk;split<;>simp<;>omega
 rw[e,← b,ϐ]
theorem Pw(cs:List (List UInt8))(k:Nat)(h:k<cs.length):pk cs (k+1)=pk cs k+cs[k].length+1:=by
 have e:(joinC (cs.take (k+1))).length=(joinC (cs.take k)).length+(if k=0 then 0 else 1)+cs[k].length:=by
  rw[yz h,Pi];by_cases b:k=0
  .subst b;simp[joinC]
  .have a:cs.take k≠[]:=by intro e;have:=congrArg Κ e;rw[ym,yE]at this;omega
   rw[yf a,yf b];simp;omega
 unfold pk;rw[e,yf (Nat.succ_ne_zero k)];omega
theorem FY{a:UInt8}(hT:T.data.toList=a ::(joinC cs++[c]))(k:Nat)(h:k<cs.length):pk cs k+cs[k].length+1<=T.size:=by
 have b:=congrArg Κ (FX hT k h);rw[yv,Zk]at b;simp at b;by_cases d:pk cs k<=T.size
 .omega
 .omega
theorem Px{a:UInt8}(hT:T.data.toList=a ::(joinC cs++[c])):T.size<=pk cs cs.length+1:=by
 have b:=congrArg Κ hT;rw[Zk]at b;simp at b;unfold pk;rw[yr (ye _)];omega
theorem AA{t:List UInt8}(h:T.data.toList.drop i=t++m):T.extract i (i+t.length)=ze t:=by
 rw[XF];unfold Zr;rw[h,Nat.add_sub_cancel_left];simp
theorem zg5(h:s.size<i+6):QN s i=ν:=by
 cases e:QN s i with
 | none=>rfl
 | some u=>have:=D7 e;omega
theorem zg6(s:Bs)(i:Nat)(hs:s.size<=33554432)(hi:i<=40000000)(w:Wo):
  δ prog 206 #[s,ι κ i] w fun e w'=>w=w'/\e=ε (ι κ (GE (QN s i))):=by
 by_cases q:i+6<=s.size
 .have l:¬ (s.size:Int)<(i:Int)+6:=om;have B:=Zw s i om;have C:=Zw s (i+1) om;by_cases o:bt s i=92
  .have H:((s[i]'om).toNat:Int)=92:=om;have z:(((s[i]'om).toNat:Int) !=92)=ζ:=by rw[bne_eq_false_iff_eq];omega
   by_cases p:bt s (i+1)=117
   .have A:(((s[i+1]'om).toNat:Int) !=117)=ζ:=by rw[bne_eq_false_iff_eq];omega
    have b:Hid (QN s i=Qn s (i+2) 4):=by show _=_;unfold QN;rw[yg ⟨o,p⟩]
    have dl:decide ((s.size:Int)<(i:Int)+6)=ζ:=so;go_in;go_wp2;go_loopw [5,6] (fun v k wr=>∃ j u:Nat,j<=4/\k=ι κ ((j+2:Nat):Int)/\u<16 ^ j/\v=ι κ (u:Int)/\Qn s (i+2) j=η u/\w=wr) (fun _ k _=>6 - (intOf k).toNat)
    case atStart=>exact⟨0,0,om,rfl,dc,rfl,rfl,rfl⟩
    case round=>
     obtain⟨j,u,F,rfl,G,rfl,hx,rfl⟩:=hrel;have m:=zb hx;clear hx;by_cases D:j<4
     .have r:u<65536:=by
       have:(16:Nat) ^ j<=16 ^ 3:=Nat.pow_le_pow_right dc om;omega
      have a:i+(j+2)<s.size:=om;have f:=zb (zgH ((s[i+(j+2)]'a).toNat) (UInt8.toNat_lt _) w);have n:bt s (i+2+j)=(s[i+(j+2)]'a).toNat:=by rw[show i+2+j=i+(j+2)from by omega];exact Zw s _ a
      cases hx1:hx ((s[i+(j+2)]'a).toNat)with
      | some d=>
       have E:=D4 hx1;have g:=zb (Xz m (by rw[n];exact hx1));rw[hx1]at f;have y:¬ ((d:Int)<0):=om;go_wp2_with fail;go_call f as e w1 ⟨rfl,rfl⟩;simp only[GE,Option.elim];go_wp2;go_roundw
       case rel=>exact⟨j+1,u*16+d,om,by go_num,by rw[Nat.pow_succ];omega,by go_num,g,trivial⟩
       case measure=>simp[intOf];omega
      | none=>
       have g:Hid (Qn s (i+2) 4=ν):=D5 (Pd (by rw[n];exact hx1)) om;rw[hx1]at f;go_wp2_with fail;go_call f as e w1 ⟨rfl,rfl⟩;simp only[GE,Option.elim];go_wp2;go_ret;exact⟨rfl,by rw[uh b,uh g];rfl⟩
     .have x:j=4:=om;subst x;go_wp2;go_ret;exact⟨rfl,by rw[uh b,uh m];rfl⟩
   .have A:(((s[i+1]'om).toNat:Int) !=117)=ξ:=by rw[bne_iff_ne];omega
    have b:Hid (QN s i=ν):=by show _=_;unfold QN;rw[yf (fun h=>p h.2)]
    go_in;go_wp2;go_ret;exact⟨rfl,by rw[uh b];rfl⟩
  .have z:(((s[i]'om).toNat:Int) !=92)=ξ:=by rw[bne_iff_ne];omega
   have b:Hid (QN s i=ν):=by show _=_;unfold QN;rw[yf (fun h=>o h.1)]
   go_in;go_wp2;go_ret;exact⟨rfl,by rw[uh b];rfl⟩
 .have l:(s.size:Int)<(i:Int)+6:=om;have b:=zb (zg5 (s:=s) (i:=i) om);go_in;go_wp2;go_ret;exact⟨rfl,by rw[uh b];rfl⟩
