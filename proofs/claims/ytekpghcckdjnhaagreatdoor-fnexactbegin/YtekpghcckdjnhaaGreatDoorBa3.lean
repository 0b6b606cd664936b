import Derived.Test.YtekpghcckdjnhaaGreatDoorBa2
import Derived.Handy
set_option maxRecDepth 100000
set_option maxHeartbeats 8000000
namespace Go.Proofs.YtekpghcckdjnhaaGreatDoor
open Go.RowKit Go.Proofs.Tryz
def putN (w:World) (g:Nat) : Nat->List Value->World
 | _,[]=>w
 | o,a :: r=>putN (w.setCell ⟨g,o,none⟩ a) g (o+1) r
def zt7 (xs:List Value) : Nat->List Value->List Value
 | _,[]=>xs
 | o,a :: r=>zt7 (xs.set o a) (o+1) r
theorem zjt:∀ (vs A rest:List Value),vs.length<=rest.length->zt7 (A++rest) A.length vs=A++vs++rest.drop vs.length
 | [],A,rest,_=>by simp[zt7]
 | a :: r,A,[],h=>by simp at h
 | a :: r,A,b :: rest,h=>by
  have:=zjt r (A++[a]) rest (by simpa using h)
  rw[zt7,List.set_append_right _ _ (ye _),Nat.sub_self,List.set_cons_zero]
  rw[yh] at this
  simpa using this
theorem zsR {w:World} {g cap n e size:Nat} {xs:List Value} (h:w.ownsRow 0 e size (.slice (some ⟨g,0,none⟩) n cap) n xs) : ∀ (vs:List Value) (o:Nat),(putN w g o vs).ownsRow 0 e size (.slice (some ⟨g,0,none⟩) n cap) n (zt7 xs o vs):=by
 intro vs
 induction vs generalizing w xs with
 | nil=>intro o; exact h
 | cons a r ih=>intro o; exact ih (h.stored o a).1 (o+1)
theorem za9 {w:World} {g k:Nat} (hk:k≠g) : ∀ (vs:List Value) (o:Nat),(putN w g o vs).heap[k]?=w.heap[k]?:=by
 intro vs
 induction vs generalizing w with
 | nil=>intro o; rfl
 | cons a r ih=>intro o; exact (ih (o+1)).trans (Below.heap_setCell _ _ _ _ hk)
theorem zah {B g:Nat} {a w:World} (h:Below B a w) (hg:B<=g) : ∀ (vs:List Value) (o:Nat),Below B a (putN w g o vs):=by
 intro vs
 induction vs generalizing w with
 | nil=>intro o; exact h
 | cons c r ih=>intro o; exact ih (h.setCell (p:=⟨g,o,none⟩) hg c) (o+1)
theorem zqz {w:World} {g:Nat} {cs:Array Value} {T:TypeId} (h:w.heap[g]?=some (.cells cs T (0,0))) : ∀ (vs:List Value) (o:Nat),(putN w g o vs).heap[g]?=some (.cells (zt7 cs.toList o vs).toArray T (0,0)):=by
 intro vs
 induction vs generalizing w cs with
 | nil=>intro o; simpa [putN,zt7] using h
 | cons a r ih=>
  intro o
  have:=ih (heap_setCell_same w g o cs T a h) (o+1)
  rw[putN,this,zt7]
  simp
theorem zat {w:World} {g:Nat} {cs:Array Value} {T:TypeId} (h:w.heap[g]?=some (.cells cs T (0,0))) (vs:List Value) (hl:vs.length=cs.size) : (putN w g 0 vs).heap[g]?=some (.cells vs.toArray T (0,0)):=by
 rw[zqz h]
 have:=zjt vs [] cs.toList (by simp[hl])
 simp only[List.nil_append,yD] at this
 rw[this,List.drop_of_length_le (by simp[hl]),List.append_nil]
def zic {α:Type} (e:zsb α) (w:World) (g n cap:Nat) (xs:List α) (bl:List Nat) : Prop:=
 ∃ (ps:List (List Value×List Nat)) (rest:List Value),ps.length=xs.length/\(∀ (j:Nat) (p:List Value×List Nat) (x:α),ps[j]?=some p->xs[j]?=some x->e.E w p.1 x p.2) /\
  w.ownsRow 0 e.T e.wd (.slice (some ⟨g,0,none⟩) n cap) n (ps.flatMap (·.1)++rest)/\bl=ps.flatMap (·.2)
section
variable {α:Type} {e:zsb α} {w w':World} {g n cap:Nat} {xs:List α} {bl:List Nat}
theorem zic.start {cs:List Value} (h:w.ownsRow 0 e.T e.wd (.slice (some ⟨g,0,none⟩) n cap) n cs) : zic e w g n cap [] []:=⟨[],cs,rfl,fun _ _ _ h=>by simp at h,h,rfl⟩
theorem zic.keep (h:zic e w g n cap xs bl) (hg:w'.heap[g]?=w.heap[g]?) (hk:Kp bl w w') : zic e w' g n cap xs bl:=by
 obtain⟨ps,rest,hl,hE,ho,rfl⟩:=h
 refine⟨ps,rest,hl,fun j p x hp hx=>e.keep (hE j p x hp hx) fun b hb=>hk b (List.mem_flatMap.2 ⟨p,List.mem_of_getElem? hp,hb⟩),zcR ho fun b hb=>?_,rfl⟩
 simp[Value.ownBlock] at hb
 rw[hb]; exact hg
theorem zic.lt (h:zic e w g n cap xs bl) : g < w.heap.size/\∀ b∈bl,b < w.heap.size:=by
 obtain⟨ps,rest,hl,hE,ho,rfl⟩:=h
 refine⟨(ho.lt g rfl).2,fun b hb=>?_⟩
 obtain⟨p,hp,hb⟩:=List.mem_flatMap.1 hb
 obtain⟨j,hj,rfl⟩:=List.mem_iff_getElem.1 hp
 exact e.lt (hE j ps[j] (xs[j]'(by omega)) (yx hj) (yx (by omega))) b hb
theorem zic.below (h:zic e w g n cap xs bl) (hb:Below w.heap.size w w') : zic e w' g n cap xs bl:=h.keep (hb.block g h.lt.1) (.of_below hb h.lt.2)
theorem zic.cell (h:zic e w g n cap xs bl) (hlt:xs.length < n) (m:Nat) (hm:m < e.wd) : ∃ u,w.cell? ⟨g,xs.length*e.wd+m,none⟩=some u:=by
 obtain⟨ps,rest,hl,hE,ho,rfl⟩:=h
 have:(xs.length+1)*e.wd<=n*e.wd:=Nat.mul_le_mul_right _ hlt
 rw[Nat.add_mul] at this
 have h1:=ho.1
 have hj:xs.length*e.wd+m < n*e.wd:=by omega
 rw[ho.cellAt _ hj]
 exact⟨_,yx (by rw[h1]; exact hj)⟩
theorem zic.frozen (h:zic e w g n cap xs bl) (j:Nat) : w.frozen? ⟨g,j,none⟩=false:=by
 obtain⟨ps,rest,hl,hE,ho,rfl⟩:=h
 exact ho.frozenAt _
theorem zic.put (h:zic e w g n cap xs bl) (hlt:xs.length < n) (hg:g ∉ bl) {vs:List Value} {x:α} {ib:List Nat} (hE:e.E w vs x ib) (hgi:g ∉ ib) :
  zic e (putN w g (xs.length*e.wd) vs) g n cap (xs++[x]) (bl++ib):=by
 obtain⟨ps,rest,hl,hE0,ho,rfl⟩:=h
 have hwd:=zfY hl hE0
 have hfl:(ps.flatMap (·.1)).length=xs.length*e.wd:=by rw[znr hwd,hl]
 have hv:=e.len hE
 have hrl:vs.length<=rest.length:=by
  have h1:=ho.1
  rw[yh,hfl] at h1
  have:(xs.length+1)*e.wd<=n*e.wd:=Nat.mul_le_mul_right _ hlt
  rw[Nat.add_mul] at this
  omega
 have hkp:∀ b':List Nat,g ∉ b'->Kp b' w (putN w g (xs.length*e.wd) vs):=fun b' hb b hbb=>za9 (k:=b) (g:=g) (fun h=>hb (by rw[← h]; exact hbb)) _ _
 refine⟨ps++[(vs,ib)],rest.drop vs.length,by simp[hl],?_,?_,by simp⟩
 ·intro j p y hp hy
  by_cases hj:j < xs.length
  ·rw[List.getElem?_append_left (by omega)] at hp hy
   exact e.keep (hE0 j p y hp hy) (hkp _ fun hb=>hg (List.mem_flatMap.2 ⟨p,List.mem_of_getElem? hp,hb⟩))
  ·have hy':=(List.getElem?_eq_some_iff.1 hy).1
   rw[yh,List.length_singleton] at hy'
   have:j=xs.length:=by omega
   subst this
   rw[← hl] at hp
   simp at hp hy
   subst hp; subst hy; exact e.keep hE (hkp _ hgi)
 ·have:=zsR ho vs (xs.length*e.wd)
  rw[← hfl,zjt _ _ _ hrl,hfl] at this
  simpa using this
theorem zic.full (h:zic e w g n cap xs bl) (hn:xs.length=n) : zbt e w (.slice (some ⟨g,0,none⟩) xs.length cap) xs (g :: bl):=by
 obtain⟨ps,rest,hl,hE,ho,rfl⟩:=h
 have hwd:=zfY hl hE
 have hr:rest=[]:=by
  have h1:=ho.1
  rw[yh,znr hwd,hl,hn] at h1
  exact yN (by omega)
 subst hr; subst hn
 refine⟨ps,hl,hE,by simpa using ho,by simp[Value.ownBlock]⟩
end
def Fsh (B:Nat) (bl:List Nat) : Prop:=bl.Nodup/\∀ b∈bl,B<=b
theorem Fsh.nil (B:Nat) : Fsh B []:=⟨List.nodup_nil,fun _ h=>by simp at h⟩
theorem Fsh.mono {B B':Nat} {bl:List Nat} (h:Fsh B bl) (hB:B'<=B) : Fsh B' bl:=⟨h.1,fun b hb=>yP hB (h.2 b hb)⟩
theorem Fsh.app {B C:Nat} {bl cl:List Nat} (h:Fsh B bl) (hlt:∀ b∈bl,b < C) (k:Fsh C cl) (hBC:B<=C) : Fsh B (bl++cl):=by
 refine⟨List.nodup_append.2 ⟨h.1,k.1,fun a ha b hb e=>?_⟩,fun b hb=>?_⟩
 ·subst e; have:=hlt a ha; have:=k.2 a hb; omega
 ·rcases List.mem_append.1 hb with hb | hb
  ·exact h.2 b hb
  ·exact yP hBC (k.2 b hb)
theorem Fsh.cons {B B' g:Nat} {bl:List Nat} (h:Fsh B bl) (hg:B'<=g) (hgB:g < B) : Fsh B' (g :: bl):=
 ⟨List.nodup_cons.2 ⟨fun hm=>by have:=h.2 g hm; omega,h.1⟩,fun b hb=>by
  rcases List.mem_cons.1 hb with rfl | hb
  ·exact hg
  ·have:=h.2 b hb; omega⟩
theorem zoQ (v:Value) (ss:List ByteArray) (w:World) (hr:zoF sRE w v ss) (hm:ss.length<=1048576) :
  Calls prog 98 #[v] w fun e w'=>∃ v' bl,e = .returned v'/\zmc w' v' ss bl/\Fsh w.heap.size bl/\Below w.heap.size w w':=by
 obtain⟨xa,xb,xo,xc,rfl,h,_,_⟩:=RStr.ss hr
 obtain⟨i0,hi,hz0,hz1,hz2⟩:=info_parts zuM
 have hadr:=h.ad
 have HC:=zab h.cell
 clear h hr
 go_enter func98,ntmps98
 go_wp2_with (at_make; refine wpList_make_full _ rfl _ _ 55 rfl w.heap.size 9 i0 (.string ByteArray.empty) 1 underlying55 hi hz0 hz1 .i64 .i64 _ _ ss.length rfl rfl rfl rfl (by rw[hz2]; omega) (by unfold maxLen; omega) (ye _) ?_)
 intro w1 hown hgrow
 have hbel:Below w.heap.size w w1:=(yH _ _).grown hgrow (ye _) (by intro k hk; cases hk)
 clear hgrow hi hz0 hz1 hz2
 go_wp2
 go_loopw [4] (fun i wr=>∃ k:Nat,k<=ss.length/\i = .int .i64 k/\Below w.heap.size w wr/\∃ xs,wr.ownsRow w.heap.size 9 1 (.slice (some ⟨w.heap.size,0,none⟩) ss.length ss.length) ss.length xs/\∀ j,j < k->xs[j]?=some (.string (ss.getD j ByteArray.empty))) (fun i _=>ss.length - (intOf i).toNat)
 case atStart=>exact⟨0,yt _,rfl,hbel,_,hown,fun j hj=>by omega⟩
 case round=>
  obtain⟨k,hk,rfl,hb,xs,hown,hxs⟩:=hrel
  by_cases hlt:k < ss.length
  ·have hc0:=uh HC k hlt
   have hxl:=hown.1
   have hc:=(hb.cell (p:=⟨xb,xo+k,none⟩) (yJ _ _ hc0)).trans hc0
   have hfz:=hown.frozenAt k
   have hce:=hown.cellAt k (by omega)
   have hst:=hown.stored k (.string (ss.getD k ByteArray.empty))
   obtain⟨old,hold⟩ : ∃ old,xs[k]?=some old:=⟨xs[k]'(by omega),by simp⟩
   rw[hold] at hce
   have HST:=zab hst
   have HX:=zab hxs
   have HL:=zab hxl
   have HB:=zab hb
   obtain rfl:=hadr (by omega)
   clear hc0 hst hxs hown hold hadr hxl hb
   generalize hs:ss.getD k ByteArray.empty=s at *
   have HS:=zab hs
   clear hs
   go_wp2
   go_roundw
   case rel=>
    refine⟨k+1,by omega,by go_num,(uh HB).setCell (ye _) _,_,(uh HST).1,?_⟩
    intro j hj
    have hxl:=uh HL
    by_cases e:j=k
    ·subst e; rw[uh HS]; rw[List.getElem?_set_self (by omega)]
    ·rw[List.getElem?_set_ne (by omega)]; exact uh HX j (by omega)
   case measure=>simp[intOf]; omega
  ·have hk':k=ss.length:=by omega
   subst hk'
   clear hadr HC
   go_wp2
   go_ret
   have hxl:=hown.1
   have hxe:xs=ss.map .string:=by
    apply List.ext_getElem?
    intro j
    by_cases hj:j < ss.length
    ·rw[hxs j hj,List.getElem?_map,yx hj]; simp[List.getD,hj]
    ·rw[List.getElem?_eq_none (by omega),List.getElem?_eq_none (by rw[yl]; omega)]
   subst hxe
   exact⟨_,[w.heap.size],rfl,zfe.2 ⟨zaC hown (yt _),rfl⟩,⟨by simp,fun b hb=>by simp at hb; omega⟩,hb⟩
theorem Fsh.not {B g:Nat} {bl:List Nat} (h:Fsh B bl) (hg:g < B) : g ∉ bl:=fun hm=>by have:=h.2 g hm; omega
structure zyL (w:World) (a b c:Obj) (w':World) : Prop where
 bel:Below w.heap.size w w'
 size:w'.heap.size=w.heap.size+1+1+1
 k0:w'.heap[w.heap.size]?=some a
 k1:w'.heap[w.heap.size+1]?=some b
 k2:w'.heap[w.heap.size+1+1]?=some c
theorem zwj (w:World) (a b c:Obj) : zyL w a b c (((w.alloc a).alloc b).alloc c):=by
 refine⟨zaa (zaa (zag w _) (zag _ _)) (zag _ _),by simp,?_,?_,?_⟩
 ·exact ((zag _ c).block _ (by simp; omega)).trans (((zag _ b).block _ (by simp)).trans (yG w a))
 ·have:=yG (w.alloc a) b
  rw[show (w.alloc a).heap.size=w.heap.size+1 from by simp] at this
  exact ((zag _ c).block _ (by simp)).trans this
 ·have:=yG ((w.alloc a).alloc b) c
  simpa using this
theorem zbt.putN {α:Type} {e:zsb α} {w:World} {v:Value} {xs:List α} {bl:List Nat} (h:zbt e w v xs bl) {g:Nat} (hg:g ∉ bl) (vs:List Value) (o:Nat) : zbt e (putN w g o vs) v xs bl:=
 h.keep fun b hb=>za9 (fun he=>hg (by subst he; exact hb)) _ _
end Go.Proofs.YtekpghcckdjnhaaGreatDoor
