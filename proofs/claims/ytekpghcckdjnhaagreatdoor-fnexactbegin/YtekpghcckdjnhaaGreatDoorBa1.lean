import Derived.Test.YtekpghcckdjnhaaGreatDoorRows
import Derived.Lib.SplitLaws
import Derived.Lib.TrimUEq
import Derived.Lib.ValidU
import Derived.Lib.RuneBytes
import Derived.Shelf.Strings.Builder1
import Derived.Shelf.Unicode.DecodeSlow
import Derived.Lib.OthersKept
import Derived.Room.AppendZeros
set_option maxRecDepth 100000
set_option maxHeartbeats 8000000
namespace Go.Proofs.YtekpghcckdjnhaaGreatDoor
open Go.RowKit
theorem yd.{u}:type_of% @beq_eq_false_iff_ne.{u}:=@beq_eq_false_iff_ne
theorem ye:type_of% @Nat.le_refl:=@Nat.le_refl
theorem yf.{u}:type_of% @if_neg.{u}:=@if_neg
theorem yg.{u}:type_of% @if_pos.{u}:=@if_pos
theorem yh.{u}:type_of% @List.length_append.{u}:=@List.length_append
theorem yi.{u,v}:type_of% @List.map_cons.{u,v}:=@List.map_cons
theorem yj:type_of% @decide_eq_true:=@decide_eq_true
theorem yk:type_of% @decide_eq_false:=@decide_eq_false
theorem yl.{u,v}:type_of% @List.length_map.{u,v}:=@List.length_map
theorem ym.{u}:type_of% @List.length_take.{u}:=@List.length_take
theorem yn.{u}:type_of% @List.length_cons.{u}:=@List.length_cons
theorem yp.{u}:type_of% @List.mem_cons_self.{u}:=@List.mem_cons_self
theorem yq.{u}:type_of% @List.take_of_length_le.{u}:=@List.take_of_length_le
theorem yr.{u}:type_of% @List.getElem_mem.{u}:=@List.getElem_mem
theorem yt:type_of% @Nat.zero_le:=@Nat.zero_le
theorem yu.{u}:type_of% @List.length_drop.{u}:=@List.length_drop
theorem yv.{u}:type_of% @List.mem_cons_of_mem.{u}:=@List.mem_cons_of_mem
theorem yw.{u,v}:type_of% @List.map_append.{u,v}:=@List.map_append
theorem yx.{u}:type_of% @List.getElem?_eq_getElem.{u}:=@List.getElem?_eq_getElem
theorem yy.{u}:type_of% @List.take_succ_eq_append_getElem.{u}:=@List.take_succ_eq_append_getElem
theorem yz.{u,v}:type_of% @Option.map_eq_some_iff.{u,v}:=@Option.map_eq_some_iff
theorem yA.{u,v}:type_of% @Option.bind_some.{u,v}:=@Option.bind_some
theorem yB.{u}:type_of% @Array.getElem?_eq_some_iff.{u}:=@Array.getElem?_eq_some_iff
theorem yC.{u}:type_of% @beq_iff_eq.{u}:=@beq_iff_eq
theorem yD.{u}:type_of% @List.length_nil.{u}:=@List.length_nil
theorem yE:type_of% @Nat.lt_of_lt_of_le:=@Nat.lt_of_lt_of_le
theorem yF:type_of% @Lib.cell_of_heap:=@Lib.cell_of_heap
theorem yG:type_of% @heap_alloc_new:=@heap_alloc_new
theorem yH:type_of% @Below.refl:=@Below.refl
theorem yI:type_of% @Lib.frozen_of_heap:=@Lib.frozen_of_heap
theorem yJ:type_of% @World.block_lt_of_cell?:=@World.block_lt_of_cell?
theorem yK:type_of% @Lib.byteCells_length:=@Lib.byteCells_length
theorem yL.{u}:type_of% @List.sum_cons.{u}:=@List.sum_cons
theorem yM.{u}:type_of% @bne_eq_false_iff_eq.{u}:=@bne_eq_false_iff_eq
theorem yN.{u}:type_of% @List.eq_nil_of_length_eq_zero.{u}:=@List.eq_nil_of_length_eq_zero
theorem yO.{u,v}:type_of% @List.mem_map.{u,v}:=@List.mem_map
theorem yP:type_of% @Nat.le_trans:=@Nat.le_trans
theorem yQ:type_of% @eq_false:=@eq_false
structure SS (w:World) (xa:Option Addr) (xb xo:Nat) (ss:List ByteArray) : Prop where
 ad:0 < ss.length->xa=some ⟨xb,xo,none⟩
 cell:∀ j,j < ss.length->w.cell? ⟨xb,xo+j,none⟩=some (.string (ss.getD j ByteArray.empty))
theorem SS.below {w w':World} {xa:Option Addr} {xb xo:Nat} {ss:List ByteArray} (h:SS w xa xb xo ss) (hb:Below w.heap.size w w') : SS w' xa xb xo ss:=
 ⟨h.ad,fun j hj=>(hb.cell (p:=⟨xb,xo+j,none⟩) (yJ _ _ (h.cell j hj))).trans (h.cell j hj)⟩
theorem zaa {w w1 w2:World} (h:Below w.heap.size w w1) (k:Below w1.heap.size w1 w2) : Below w.heap.size w w2:=h.trans (k.mono h.size)
def tot (ss:List ByteArray) : Nat:=(ss.map ByteArray.size).sum
theorem zpF {ss:List ByteArray} {j:Nat} (hj:j < ss.length) : ss.take (j+1)=ss.take j++[ss.getD j ByteArray.empty]:=by
 rw[List.take_add_one,yx hj]; simp[List.getD,hj]
theorem zsf (ss:List ByteArray) (s:ByteArray) : tot (ss++[s])=tot ss+s.size:=by simp[tot]
theorem zlW (ss:List ByteArray) (k:Nat) : tot (ss.take k)<=tot ss:=by
 have h:tot ss=tot (ss.take k)+tot (ss.drop k):=by
  unfold tot; rw[← List.sum_append,← yw,List.take_append_drop]
 omega
def szr (L:Nat) (ss:List ByteArray) : Int:=if ss.length+tot ss<=L then (L:Int) - (ss.length+tot ss:Nat) else -1
theorem zab {p:Prop} (h:p) : Hid p:=h
theorem uh {p:Prop} (h:Hid p) : p:=h
theorem zb6 {k:IntKind} {a b:Int} (h:a=b) : Ending.returned (.int k a) = .returned (.int k b):=by rw[h]
theorem zaj {w w1:World} {B e size n:Nat} {v:Value} {xs:List Value} (h:w.ownsRow B e size v n xs) (hb:Below w.heap.size w w1) : w1.ownsRow B e size v n xs:=by
 refine⟨h.1,?_⟩
 rcases h.2 with h0 | ⟨g,cap,cur,hv,hB,hg,r⟩
 ·exact .inl h0
 ·exact .inr ⟨g,cap,cur,hv,hB,(hb.block g (yB.1 hg).1).trans hg,r⟩
theorem zaC {w:World} {B B' e size n:Nat} {v:Value} {xs:List Value} (h:w.ownsRow B e size v n xs) (hB:B'<=B) : w.ownsRow B' e size v n xs:=by
 refine⟨h.1,?_⟩
 rcases h.2 with h0 | ⟨g,cap,cur,hv,hb,r⟩
 ·exact .inl h0
 ·exact .inr ⟨g,cap,cur,hv,yP hB hb,r⟩
theorem zuL (xa:Option Addr) (xb xo xc:Nat) (ss:List ByteArray) (L:Nat) (w:World) (h:SS w xa xb xo ss) (hL:L<=1048576) (hm:ss.length<=maxLen) (hws:∀ j,(ss.getD j ByteArray.empty).size<=maxLen) :
  Calls Tryz.prog 79 #[.slice xa ss.length xc,.int .i64 L] w fun e w'=>e = .returned (.int .i64 (szr L ss))/\w'=w:=by
 unfold maxLen at hm
 have hadr:=h.ad
 have HC:=zab h.cell
 have HW:=zab hws
 clear h hws
 by_cases h0:L < ss.length
 ·go_enter Tryz.func79,Tryz.ntmps79
  go_wp2
  go_ret
  refine⟨zb6 ?_,rfl⟩
  unfold szr; rw[yf (by omega)]
 ·go_enter Tryz.func79,Tryz.ntmps79
  go_wp2
  go_loop [1,5] (fun l i=>∃ k:Nat,k<=ss.length/\i = .int .i64 k/\ss.length+tot (ss.take k)<=L/\l = .int .i64 ((L:Int) - ss.length - tot (ss.take k))) (fun _ i=>ss.length - (intOf i).toNat)
  case atStart=>exact⟨0,yt _,rfl,by simp[tot]; omega,by simp[tot]⟩
  case round=>
   obtain⟨k,hk,rfl,hle,rfl⟩:=hrel
   by_cases hlt:k < ss.length
   ·have hc:=uh HC k hlt
    have hw1:=uh HW k
    have ht:=zsf (ss.take k) (ss.getD k ByteArray.empty)
    rw[← zpF hlt] at ht
    obtain rfl:=hadr (by omega)
    generalize ss.getD k ByteArray.empty=s at *
    unfold maxLen at hw1
    generalize tot (ss.take k)=T at *
    generalize hT2:tot (ss.take (k+1))=T2 at *
    have HT:=zab hT2
    clear hT2 hadr
    have Ht:=zab ht
    clear ht
    by_cases hn:ss.length+T+s.size<=L
    ·go_wp2
     go_round
     case rel=>exact⟨k+1,by omega,by go_num,by rw[uh HT,uh Ht]; omega,by rw[uh HT,uh Ht]; go_num⟩
     case measure=>simp[intOf]; omega
    ·go_wp2
     go_ret
     refine⟨zb6 ?_,rfl⟩
     have:=zlW ss (k+1)
     unfold szr; rw[yf (by rw[uh HT,uh Ht] at this; omega)]
   ·go_wp2
    go_ret
    refine⟨zb6 ?_,rfl⟩
    have e:ss.take k=ss:=yq (by omega)
    rw[e] at hle ⊢
    unfold szr; rw[yg hle]; omega
theorem zuM:(Tryz.prog.info? 9).map (fun i=>(i.zero,i.size,i.bytes))=some (some (.string ByteArray.empty),1,16):=by kernel_rfl
theorem zak (s:ByteArray) : s.data.toList.length=s.size:=Array.length_toList
theorem zfP (s:ByteArray) (k:Nat) (h:k < s.size) : s.data.toList.take (k+1)=s.data.toList.take k++[s[k]]:=by
 rw[yy (by simpa using h)]; rfl
theorem zpG (s:ByteArray) : s.data.toList.take s.size=s.data.toList:=yq (Nat.le_of_eq (zak s))
def zau:List UInt8->Option (List UInt8)
 | []=>some []
 | c :: r=>
  if c.toNat=126 then
   match r with
   | []=>none
   | d :: r'=>if d.toNat=48 then (zau r').map (126 :: ·) else if d.toNat=49 then (zau r').map (47 :: ·) else none
  else (zau r).map (c :: ·)
theorem zgQ {c:UInt8} (r:List UInt8) (h:¬ (c.toNat:Int)=126) : zau (c :: r)=(zau r).map ([c]++·):=by
 rw[zau.eq_def]; simp only; rw[yf (by omega)]; rfl
theorem zgR {c:UInt8} (h:(c.toNat:Int)=126) : zau [c]=none:=by
 rw[zau.eq_def]; simp only; rw[yg (by omega)]
theorem zlX {c d:UInt8} (r:List UInt8) (h:(c.toNat:Int)=126) (h':(d.toNat:Int)=48) : zau (c :: d :: r)=(zau r).map ([126]++·):=by
 rw[zau.eq_def]; simp only; rw[yg (by omega),yg (by omega)]; rfl
theorem zlY {c d:UInt8} (r:List UInt8) (h:(c.toNat:Int)=126) (h':(d.toNat:Int)=49) : zau (c :: d :: r)=(zau r).map ([47]++·):=by
 rw[zau.eq_def]; simp only; rw[yg (by omega),yf (by omega),yg (by omega)]; rfl
theorem zgS {c d:UInt8} (r:List UInt8) (h:(c.toNat:Int)=126) (h':¬ (d.toNat:Int)=48) (h'':¬ (d.toNat:Int)=49) : zau (c :: d :: r)=none:=by
 rw[zau.eq_def]; simp only; rw[yg (by omega),yf (by omega),yf (by omega)]
def zki (l:List UInt8) (j:Nat) (acc:List UInt8) : Prop:=zau l=(zau (l.drop j)).map (acc++·)
theorem zki.start (l:List UInt8) : zki l 0 []:=by simp[zki]
theorem zki.step {l:List UInt8} {j k:Nat} {acc m:List UInt8} (h:zki l j acc) (hs:zau (l.drop j)=(zau (l.drop k)).map (m++·)) : zki l k (acc++m):=by
 unfold zki at *; rw[h,hs,Option.map_map]; congr 1; funext x; simp
theorem zki.bad {l:List UInt8} {j:Nat} {acc:List UInt8} (h:zki l j acc) (hs:zau (l.drop j)=none) : zau l=none:=by
 unfold zki at h; rw[h,hs]; rfl
theorem zki.fin {l:List UInt8} {j:Nat} {acc:List UInt8} (h:zki l j acc) (hj:l.length<=j) : zau l=some acc:=by
 unfold zki at h; rw[h,List.drop_eq_nil_of_le hj]; simp[zau]
theorem zax (s:ByteArray) (j:Nat) (h:j < s.size) : s.data.toList.drop j=s[j] :: s.data.toList.drop (j+1):=by
 rw[List.drop_eq_getElem_cons (by rw[zak]; exact h)]; rfl
theorem zeo (s:ByteArray) (j:Nat) (h:¬ j < s.size) : s.data.toList.drop j=[]:=List.drop_eq_nil_of_le (by rw[zak]; omega)
def zni (o:Option (List UInt8)) : Value:=.tuple #[.string ⟨(o.getD []).toArray⟩,.bool o.isSome]
def zaV:List UInt8->List (List UInt8)
 | []=>[[]]
 | c :: r=>if c.toNat=47 then [] :: zaV r else (match zaV r with | []=>[[c]] | p :: ps=>(c :: p) :: ps)
theorem ze8 (l:List UInt8) : zaV l≠[]:=by
 cases l with
 | nil=>simp[zaV]
 | cons c r=>
  rw[zaV]; split
  ·simp
  ·split <;> simp
theorem zc5 {c:UInt8} (r:List UInt8) (h:c.toNat=47) : zaV (c :: r)=[] :: zaV r:=by rw[zaV,yg h]
theorem zcE {c:UInt8} {r p:List UInt8} {ps:List (List UInt8)} (h:¬ c.toNat=47) (hr:zaV r=p :: ps) : zaV (c :: r)=(c :: p) :: ps:=by rw[zaV,yf h,hr]
theorem znj:∀ l:List UInt8,Lib.splitK [47] 0 (Lib.count l [47]) l=zaV l
 | []=>by rw[Lib.count_miss (by simp[Lib.index])]; rfl
 | c :: r=>by
  have ih:=znj r
  by_cases h:c=47
  ·subst h
   have hix:Lib.index (47 :: r) [47]=((0:Nat) : Int):=by rw[Lib.index]; simp[List.isPrefixOf]
   rw[Lib.count_cons_eq,Nat.add_comm,Lib.splitK,hix]
   rw[zc5 r (by decide),← ih]
   simp
  ·have hp:([47] : List UInt8).isPrefixOf (c :: r)=false:=by simp[List.isPrefixOf,Ne.symm h]
   have hix:Lib.index (c :: r) [47]=if Lib.index r [47] == -1 then -1 else Lib.index r [47]+1:=by rw[Lib.index,hp]; simp
   have hn:¬ c.toNat=47:=fun e=>h (by have:=UInt8.ofNat_toNat (x:=c); rw[e] at this; exact this.symm)
   rw[Lib.count_cons_ne c 47 r h]
   by_cases hm:Lib.index r [47] = -1
   ·rw[Lib.count_miss hm] at ih ⊢
    rw[Lib.splitK] at ih ⊢
    rw[zcE hn ih.symm]
   ·have hge:=Lib.index_ge r [47]
    obtain⟨j,hj⟩ : ∃ j:Nat,Lib.index r [47]=j:=⟨(Lib.index r [47]).toNat,by omega⟩
    have hix':Lib.index (c :: r) [47]=((j+1:Nat) : Int):=by rw[hix,yf (fun e=>hm (yC.1 e)),hj]; omega
    rw[Lib.count_hit (by simp) hj,Nat.add_comm] at ih ⊢
    rw[Lib.splitK,hj] at ih
    rw[Lib.splitK,hix']
    rw[yf (fun e=>by have:=yC.1 e; omega)] at ih ⊢
    simp only[Int.toNat_natCast,Nat.add_zero] at ih ⊢
    rw[zcE hn ih.symm]
    simp
theorem zi9 (s:ByteArray) : (Lib.splitB ⟨#[47]⟩ 0 (Lib.countB s ⟨#[47]⟩) s).map (·.data.toList)=zaV s.data.toList:=by
 rw[Lib.splitB_data]; exact znj _
def ziA (l:List UInt8) : Option (List (List UInt8)):=(zaV l).mapM zau
def zar:List UInt8->Option (List (List UInt8))
 | []=>some []
 | c :: r=>if c.toNat=47 then ziA r else none
end Go.Proofs.YtekpghcckdjnhaaGreatDoor
namespace Go.Proofs.YtekpghcckdjnhaaGreatDoor
open Go.RowKit Go.Lib
def bt (s:ByteArray) (i:Nat) : Nat:=(s.data.toList.getD i 0).toNat
theorem zb1 (s:ByteArray) (i:Nat) : bt s i < 256:=UInt8.toNat_lt _
theorem zas (s:ByteArray) (i:Nat) (h:i < s.size) : bt s i=s[i].toNat:=by
 unfold bt
 have:s.data.toList[i]?=some s[i]:=by rw[yx (by rw[zak]; exact h)]; rfl
 rw[List.getD_eq_getElem?_getD,this]; rfl
theorem dec (s:ByteArray) (i:Nat) : Utf8.decode s i=decodeN (s.size - i) (bt s i) (bt s (i+1)) (bt s (i+2)) (bt s (i+3)):=by
 rw[decode_N,zak]; rfl
def rlN (n b0 b1 b2 b3:Nat) : Nat:=if b0 < 128 then 1 else if (decodeN n b0 b1 b2 b3).2=1 then 0 else (decodeN n b0 b1 b2 b3).2
def rl (s:ByteArray) (i:Nat) : Nat:=rlN (s.size - i) (bt s i) (bt s (i+1)) (bt s (i+2)) (bt s (i+3))
theorem zja {n b0 b1 b2 b3:Nat} (h:b0 < 128) : rlN n b0 b1 b2 b3=1:=by simp[rlN,h]
theorem zjb {n b0 b1 b2 b3:Nat} (h:128<=b0) (h':b0 < 192) : rlN n b0 b1 b2 b3=0:=by
 unfold rlN decodeN
 rw[yf (by omega)]
 repeat' split
 all_goals first | rfl | (exfalso; omega) | (simp at *; done) | (exfalso; simp at *; omega)
theorem zpH {n b0 b1 b2 b3:Nat} (h:192<=b0) (h':b0 < 224) (hb1:b1 < 256) :
  rlN n b0 b1 b2 b3=if 2<=n/\128<=b1/\b1 < 192/\128<=(b0 - 192)*64+(b1 - 128) then 2 else 0:=by
 unfold rlN decodeN
 rw[yf (by omega)]
 repeat' split
 all_goals first | rfl | omega | (exfalso; omega) | (exfalso; simp at *; omega)
theorem zpI {n b0 b1 b2 b3:Nat} (h:224<=b0) (h':b0 < 240) (hb1:b1 < 256) (hb2:b2 < 256) :
  rlN n b0 b1 b2 b3=if 3<=n/\128<=b1/\b1 < 192/\128<=b2/\b2 < 192/\2048<=(b0 - 224)*4096+(b1 - 128)*64+(b2 - 128)/\((b0 - 224)*4096+(b1 - 128)*64+(b2 - 128) < 55296∨57344<=(b0 - 224)*4096+(b1 - 128)*64+(b2 - 128)) then 3 else 0:=by
 unfold rlN decodeN
 rw[yf (by omega)]
 repeat' split
 all_goals first | rfl | omega | (exfalso; omega) | (exfalso; simp at *; omega)
theorem zpJ {n b0 b1 b2 b3:Nat} (h:240<=b0) (h':b0 < 256) (hb1:b1 < 256) (hb2:b2 < 256) (hb3:b3 < 256) :
  rlN n b0 b1 b2 b3=if 4<=n/\128<=b1/\b1 < 192/\128<=b2/\b2 < 192/\128<=b3/\b3 < 192/\65536<=(b0 - 240)*262144+(b1 - 128)*4096+(b2 - 128)*64+(b3 - 128)/\(b0 - 240)*262144+(b1 - 128)*4096+(b2 - 128)*64+(b3 - 128)<=1114111 then 4 else 0:=by
 unfold rlN decodeN
 rw[yf (by omega)]
 repeat' split
 all_goals first | rfl | omega | (exfalso; omega) | (exfalso; simp at *; omega)
end Go.Proofs.YtekpghcckdjnhaaGreatDoor
namespace Go.Proofs.YtekpghcckdjnhaaGreatDoor
open Go.RowKit
def zbo (b:Nat) : Bool:=decide (48<=b) && decide (b<=57)
theorem zaH {b:Nat} : zbo b=true↔48<=b/\b<=57:=by simp[zbo]
def zeN (l:List UInt8) : Nat:=l.foldl (fun v c=>v*10+(c.toNat - 48)) 0
theorem zc6 (l:List UInt8) (c:UInt8) : zeN (l++[c])=zeN l*10+(c.toNat - 48):=by unfold zeN; rw[List.foldl_append]; rfl
theorem zyv (s:ByteArray) (k:Nat) (h:k < s.size) : s.data.toList[k]'(by rw[zak]; exact h)=s[k]:=rfl
theorem ztY:∀ (n:Nat) (t:List UInt8),t.length=n->zeN t < 10 ^ n∨¬ (∀ c∈t,zbo c.toNat=true):=by
 intro n
 induction n with
 | zero=>intro t h; rw[yN h]; exact .inl (by simp[zeN])
 | succ n ih=>
  intro t h
  rcases List.eq_nil_or_concat t with e | ⟨a,c,e⟩
  ·subst e; simp at h
  ·rw[List.concat_eq_append] at e
   subst e
   by_cases hd:∀ x∈a++[c],zbo x.toNat=true
   ·left
    have hc:=zaH.1 (hd c (by simp))
    rcases ih a (by simpa using h) with h1 | h1
    ·rw[zc6,Nat.pow_succ]; omega
    ·exact absurd (fun x hx=>hd x (by simp[hx])) h1
   ·exact .inr hd
theorem zkj:(Tryz.prog.info? 5).map (fun i=>(i.zero,i.size,i.bytes))=some (some (.int .u8 0),1,1):=by kernel_rfl
theorem zdV {l:List UInt8} {j:Nat} (hj:j < l.length) : (Lib.byteCells l)[j]?=some (.int .u8 (l[j].toNat:Int)):=by simp[Lib.byteCells,hj]
theorem zlZ (w:World) (t:TypeId) (x:Value) : ∀ j u,[x][j]?=some u->(w.alloc (.cells #[x] t)).cell? ((⟨w.heap.size,0,none⟩ : Addr).add j)=some u:=by
 intro j u hj
 match j,hj with
 | 0,hj=>simp at hj; subst hj; simp[Addr.add]
theorem ztZ (w:World) (t:TypeId) (x y:Value) : ∀ j u,[x,y][j]?=some u->(w.alloc (.cells #[x,y] t)).cell? ((⟨w.heap.size,0,none⟩ : Addr).add j)=some u:=by
 intro j u hj
 match j,hj with
 | 0,hj=>simp at hj; subst hj; simp[Addr.add]
 | 1,hj=>simp at hj; subst hj; simp[Addr.add]
theorem zsg (k:IntKind) (a:Int) : ∀ u∈[Value.int k a],u.oneCell'=true:=by intro u hu; simp at hu; subst hu; rfl
theorem zuN (k:IntKind) (a b:Int) : ∀ u∈[Value.int k a,Value.int k b],u.oneCell'=true:=by
 intro u hu; simp at hu; rcases hu with rfl | rfl <;> rfl
theorem zaI {w1:World} {B e:Nat} {v':Value} {l m:List UInt8} {news:List Value} {k:Nat} (h:w1.ownsRow B e 1 v' ((Lib.byteCells l).length+k) (Lib.byteCells l++news)) (hn:news=Lib.byteCells m) (hk:k=m.length) :
  w1.ownsRow B e 1 v' (Lib.byteCells (l++m)).length (Lib.byteCells (l++m)):=by
 subst hn; subst hk
 rw[Lib.byteCells_append]
 have:(Lib.byteCells l++Lib.byteCells m).length=(Lib.byteCells l).length+m.length:=by simp[Lib.byteCells]
 rw[this]; exact h
theorem zb7 {w:World} {B:Nat} {v:Value} {l:List UInt8} (h:w.ownsRow B 5 1 v (Lib.byteCells l).length (Lib.byteCells l)) : (convert 160 9 v).run Tryz.prog w = .ok (.string ⟨l.toArray⟩) w:=by
 have hl:=yK l
 rcases h.2 with ⟨hv,h0⟩ | ⟨g,cap,cur,hv,_⟩
 ·have e0:l=[]:=yN (by omega)
  subst hv; subst e0
  exact run_convert_bytes_nil (P:=Tryz.prog) w 160 5 Tryz.underlying160 Tryz.underlying5 0 0 9 Tryz.underlying9
 ·subst hv
  rw[hl] at h ⊢
  exact run_convert_bytes_back (P:=Tryz.prog) w 160 9 5 ⟨g,0,none⟩ cap l Tryz.underlying160 Tryz.underlying5 Tryz.underlying9 (fun j hj=>by
   rw[show ((⟨g,0,none⟩ : Addr).add j)=⟨g,j,none⟩ from by simp[Addr.add]; omega,h.cellAt j (by omega)]; exact zdV hj)
def zgv (r:Nat) : List Nat:=
 if r < 128 then [r] else if r < 2048 then [192+r / 64,128+r % 64]
 else if r < 65536 then [224+r / 4096,128+r / 64 % 64,128+r % 64]
 else [240+r / 262144,128+r / 4096 % 64,128+r / 64 % 64,128+r % 64]
def utf (r:Nat) : List UInt8:=(zgv r).map UInt8.ofNat
def zac (l:List UInt8) : ByteArray:=⟨l.toArray⟩
theorem zad (l:List UInt8) : (zac l).data.toList=l:=by simp[zac]
theorem zaf (l:List UInt8) : (zac l).size=l.length:=by rw[← zak,zad]
theorem zbg (w:World) (l:List UInt8) (cs:Array Value) (n:Nat) (hn:n=l.length) (hcs:cs.toList=Lib.byteCells l) :
  (convert 160 9 (.slice (some ⟨w.heap.size,0,none⟩) n n)).run Tryz.prog (w.alloc (.cells cs 5)) = .ok (.string (zac l)) (w.alloc (.cells cs 5)):=by
 subst hn
 exact run_convert_bytes_back (P:=Tryz.prog) _ 160 9 5 ⟨w.heap.size,0,none⟩ l.length l Tryz.underlying160 Tryz.underlying5 Tryz.underlying9 (fun j hj=>by
  rw[Go.WideShapes.add_plain,cell_of_row _ w.heap.size (0+j) cs 5 (0,0) (yG w _),Nat.zero_add]
  have h:=zdV hj
  rw[← hcs] at h; simpa using h)
theorem zgT (r:Nat) (w:World) (hr:r<=1114111) :
  Calls Tryz.prog 151 #[.int .i64 r] w fun e w'=>e = .returned (.string (zac (utf r)))/\Below w.heap.size w w':=by
 by_cases h1:r < 128
 ·have hcv:=zbg w (utf r) #[.int .u8 (r:Int)] 1 (by simp[utf,zgv,h1]) (by simp[utf,zgv,h1,Lib.byteCells]; omega)
  have h1':(r:Int) < 128:=by omega
  generalize utf r=u at *
  go_enter Tryz.func151,Tryz.ntmps151
  go_wp2
  go_ret
  exact⟨rfl,(yH _ _).alloc (ye _) _⟩
 ·by_cases h2:r < 2048
  ·have hcv:=zbg w (utf r) #[.int .u8 (192+(r:Int) / 64),.int .u8 (128+(r:Int) % 64)] 2 (by simp[utf,zgv,h1,h2]) (by simp[utf,zgv,h1,h2,Lib.byteCells]; omega)
   have h1':¬ (r:Int) < 128:=by omega
   have h2':(r:Int) < 2048:=by omega
   generalize utf r=u at *
   go_enter Tryz.func151,Tryz.ntmps151
   go_wp2
   go_ret
   exact⟨rfl,(yH _ _).alloc (ye _) _⟩
  ·by_cases h3:r < 65536
   ·have hcv:=zbg w (utf r) #[.int .u8 (224+(r:Int) / 4096),.int .u8 (128+(r:Int) / 64 % 64),.int .u8 (128+(r:Int) % 64)] 3 (by simp[utf,zgv,h1,h2,h3]) (by simp[utf,zgv,h1,h2,h3,Lib.byteCells]; omega)
    have h1':¬ (r:Int) < 128:=by omega
    have h2':¬ (r:Int) < 2048:=by omega
    have h3':(r:Int) < 65536:=by omega
    generalize utf r=u at *
    go_enter Tryz.func151,Tryz.ntmps151
    go_wp2
    go_ret
    exact⟨rfl,(yH _ _).alloc (ye _) _⟩
   ·have hcv:=zbg w (utf r) #[.int .u8 (240+(r:Int) / 262144),.int .u8 (128+(r:Int) / 4096 % 64),.int .u8 (128+(r:Int) / 64 % 64),.int .u8 (128+(r:Int) % 64)] 4 (by simp[utf,zgv,h1,h2,h3]) (by simp[utf,zgv,h1,h2,h3,Lib.byteCells]; omega)
    have h1':¬ (r:Int) < 128:=by omega
    have h2':¬ (r:Int) < 2048:=by omega
    have h3':¬ (r:Int) < 65536:=by omega
    generalize utf r=u at *
    go_enter Tryz.func151,Tryz.ntmps151
    go_wp2
    go_ret
    exact⟨rfl,(yH _ _).alloc (ye _) _⟩
def zlT:List UInt8:=[48,49,50,51,52,53,54,55,56,57,97,98,99,100,101,102]
def qB (c:UInt8) : List UInt8:=
 if c.toNat=34∨c.toNat=92 then [92,c] else if c.toNat=8 then [92,98] else if c.toNat=9 then [92,116] else if c.toNat=10 then [92,110]
 else if c.toNat=12 then [92,102] else if c.toNat=13 then [92,114] else if c.toNat < 32 then [92,117,48,48,zlT.getD (c.toNat / 16) 0,zlT.getD (c.toNat % 16) 0] else [c]
theorem zuO (c:UInt8) : (qB c).length<=6:=by
 unfold qB
 repeat' split
 all_goals simp
def qs (l:List UInt8) : List UInt8:=l.flatMap qB
def quoted (l:List UInt8) : List UInt8:=34 :: (qs l++[34])
theorem zuP (l:List UInt8) (c:UInt8) : qs (l++[c])=qs l++qB c:=by simp[qs]
theorem zpK (l m:List UInt8) : qs (l++m)=qs l++qs m:=by simp[qs]
theorem zv8 (l:List UInt8) : (qs l).length<=6*l.length:=by
 induction l with
 | nil=>simp[qs]
 | cons c l ih=>have:=zuO c; simp only[qs,List.flatMap_cons,yh,yn] at *; omega
theorem zor {c:UInt8} (h:(c.toNat:Int)=34∨(c.toNat:Int)=92) : qB c=[92,c]:=by unfold qB; rw[yg (by omega)]
theorem q_8 {c:UInt8} (h:(c.toNat:Int)=8) : qB c=[92,98]:=by unfold qB; rw[yf (by omega),yg (by omega)]
theorem q_9 {c:UInt8} (h:(c.toNat:Int)=9) : qB c=[92,116]:=by unfold qB; rw[yf (by omega),yf (by omega),yg (by omega)]
theorem zxS {c:UInt8} (h:(c.toNat:Int)=10) : qB c=[92,110]:=by unfold qB; rw[yf (by omega),yf (by omega),yf (by omega),yg (by omega)]
theorem zxT {c:UInt8} (h:(c.toNat:Int)=12) : qB c=[92,102]:=by unfold qB; rw[yf (by omega),yf (by omega),yf (by omega),yf (by omega),yg (by omega)]
theorem zxU {c:UInt8} (h:(c.toNat:Int)=13) : qB c=[92,114]:=by unfold qB; rw[yf (by omega),yf (by omega),yf (by omega),yf (by omega),yf (by omega),yg (by omega)]
def Ctl (n:Nat) : Prop:=n < 32/\¬ n=8/\¬ n=9/\¬ n=10/\¬ n=12/\¬ n=13
theorem zuQ {c:UInt8} (h:Ctl c.toNat) : qB c=[92,117,48,48,zlT.getD (c.toNat / 16) 0,zlT.getD (c.toNat % 16) 0]:=by
 obtain⟨h1,h2,h3,h4,h5,h6⟩:=h
 unfold qB; rw[yf (by omega),yf h2,yf h3,yf h4,yf h5,yf h6,yg h1]
theorem zsh {c:UInt8} (h:¬ c.toNat=34) (h':¬ c.toNat=92) (h'':32<=c.toNat) : qB c=[c]:=by
 unfold qB; rw[yf (by omega),yf (by omega),yf (by omega),yf (by omega),yf (by omega),yf (by omega),yf (by omega)]
theorem znk (k:Nat) (h:k < 16) : (⟨zlT.toArray⟩ : ByteArray)[k]'(by show k < 16; exact h)=zlT.getD k 0:=by
 rcases (show k=0∨k=1∨k=2∨k=3∨k=4∨k=5∨k=6∨k=7∨k=8∨k=9∨k=10∨k=11∨k=12∨k=13∨k=14∨k=15 from by omega) with rfl | rfl | rfl | rfl | rfl | rfl | rfl | rfl | rfl | rfl | rfl | rfl | rfl | rfl | rfl | rfl <;> rfl
theorem zl0:∀ l:List UInt8,(∀ c∈l,128<=c.toNat)->qs l=l
 | [],_=>rfl
 | c :: l,h=>by
  have h1:=h c yp
  have ih:=zl0 l (fun d hd=>h d (yv _ hd))
  show qB c++qs l=c :: l
  rw[zsh (by omega) (by omega) (by omega),ih]; rfl
def atB (s:ByteArray) (k:Nat) (c:Int) : Bool:=match s.data.toList[k]? with
 | some x=>(x.toNat:Int) == c
 | none=>false
theorem zdW (s:ByteArray) (k:Nat) (h:k < s.size) : s.data.toList[k]?=some s[k]:=by
 rw[yx (by rw[zak]; exact h)]; rfl
theorem zdX {s:ByteArray} {k:Nat} {c:Int} (h:k < s.size) : atB s k c=((s[k].toNat:Int) == c):=by
 unfold atB; rw[zdW s k h]
theorem zfQ {s:ByteArray} {k:Nat} {c:Int} (h:¬ k < s.size) : atB s k c=false:=by
 unfold atB; rw[List.getElem?_eq_none (by rw[zak]; omega)]
theorem znl {a b:Bool} (h:a=b) : Ending.returned (.bool a) = .returned (.bool b):=by rw[h]
theorem zdt (s:ByteArray) (i:Int) (k:Nat) (hik:i=(k:Int)) (c:Int) (w:World) :
  Calls Tryz.prog 114 #[.string s,.int .i64 i,.int .u8 c] w fun e w'=>e = .returned (.bool (atB s k c))/\w=w':=by
 subst hik
 by_cases h:k < s.size
 ·have HB:=zab (zdX (c:=c) h)
  have h':(k:Int) < (s.size:Int):=by omega
  go_enter Tryz.func114,Tryz.ntmps114
  go_wp2
  go_ret
  exact⟨znl (by rw[uh HB]),rfl⟩
 ·have HB:=zab (zfQ (c:=c) h)
  have h':decide ((k:Int) < (s.size:Int))=false:=by simp; omega
  go_enter Tryz.func114,Tryz.ntmps114
  go_wp2
  go_ret
  exact⟨znl (by rw[uh HB]),rfl⟩
theorem zdY (l:List UInt8) : ∀ u∈Lib.byteCells l,u.oneCell'=true:=by
 intro u hu
 simp only[Lib.byteCells,yO] at hu
 obtain⟨b,_,rfl⟩:=hu
 rfl
theorem zc7 (w:World) (l:List UInt8) : ∃ cap W,(convert 9 160 (.string (zac l))).run Tryz.prog w = .ok (.slice (some ⟨w.heap.size,0,none⟩) l.length cap) W /\
  (∀ j u,(Lib.byteCells l)[j]?=some u->W.cell? ((⟨w.heap.size,0,none⟩ : Addr).add j)=some u)/\Below w.heap.size w W/\(∀ (B e:Nat) v n xs,w.ownsRow B e 1 v n xs->W.ownsRow B e 1 v n xs)/\w.heap.size<=W.heap.size:=by
 have h:=run_bytes_of_string (P:=Tryz.prog) w 9 160 5 (zac l) Tryz.underlying9 Tryz.underlying160 Tryz.underlying5
 have hsz:(zac l).size=l.length:=zaf l
 refine⟨_,_,(by rw[h,hsz]),?_,?_,?_,?_⟩
 ·intro j u hj
  have hjl:j < l.length:=by
   have:=(List.getElem?_eq_some_iff.1 hj).1
   rwa [yK] at this
  have hd:(zac l).data.size=l.length:=by simp[zac]
  have h1:=bytesRow_at (zac l) (grownCap w (zac l).size 0 5) j (by omega)
  rw[Go.WideShapes.add_plain,show (0:Nat)+j=j from by omega]
  have hh:(w.drew.alloc (.cells (bytesRow (zac l) (grownCap w (zac l).size 0 5)) 5 ((bytesRow (zac l) (grownCap w (zac l).size 0 5)).size,(bytesRow (zac l) (grownCap w (zac l).size 0 5)).size+1))).heap[w.heap.size]?=some (.cells (bytesRow (zac l) (grownCap w (zac l).size 0 5)) 5 ((bytesRow (zac l) (grownCap w (zac l).size 0 5)).size,(bytesRow (zac l) (grownCap w (zac l).size 0 5)).size+1)):=yG w.drew _
  rw[hsz] at hh h1
  rw[cell_of_row _ w.heap.size j _ 5 _ hh,h1]
  rw[zdV hjl] at hj
  rw[← hj]
  simp[zac]
 ·exact ((yH _ _).drew).alloc (ye _) _
 ·intro B e v n xs ho
  exact World.ownsRow.alloc (w:=w.drew) ho _
 ·show w.heap.size<=(w.heap.push _).size
  simp
theorem zfR:(Tryz.prog.info? 9).map (fun i=>(i.zero,i.size,i.bytes))=some (some (.string ByteArray.empty),1,16):=by kernel_rfl
def zaW (t:List UInt8) : Value:=.string ⟨t.toArray⟩
abbrev OT (w:World) (B:Nat) (v:Value) (ts:List (List UInt8)) : Prop:=w.ownsRow B 9 1 v ts.length (ts.map zaW)
def baT (t:List UInt8) : ByteArray:=⟨t.toArray⟩
theorem OT.shape {w:World} {B:Nat} {v:Value} {ts:List (List UInt8)} (h:OT w B v ts) : ∃ a g cap,v = .slice a ts.length cap/\SS w a g 0 (ts.map baT)/\(0 < ts.length->B<=g):=by
 rcases h.2 with ⟨hv,h0⟩ | ⟨g,cap,cur,hv,hb,hg,_⟩
 ·exact⟨none,0,0,by rw[hv,h0],⟨fun h=>by rw[yl] at h; omega,fun j hj=>by rw[yl] at hj; omega⟩,fun h=>by omega⟩
 ·refine⟨some ⟨g,0,none⟩,g,cap,hv,⟨fun _=>rfl,fun j hj=>?_⟩,fun _=>hb⟩
  subst hv
  rw[yl] at hj
  rw[Nat.zero_add,h.cellAt j (by omega)]
  simp[zaW,baT,hj]
theorem zgU (s:ByteArray) : ∀ u∈[Value.string s],u.oneCell'=true:=by intro u hu; simp at hu; subst hu; rfl
theorem OT.step {w:World} {B:Nat} {v:Value} {ts:List (List UInt8)} {t:List UInt8} (h:w.ownsRow B 9 1 v (ts.length+1) (ts.map zaW++[zaW t])) : OT w B v (ts++[t]):=by
 unfold OT; rw[yh,yw]; exact h
theorem zeY (t:List UInt8) : zni (some t) = .tuple #[.string (baT t),.bool true]:=rfl
theorem zeZ:zni none = .tuple #[.string ⟨#[]⟩,.bool false]:=rfl
def zjc (l:List UInt8) (f k:Nat) : Prop:=∀ m,f<=m->m < k->∀ c,l[m]?=some c->¬ c.toNat=47
theorem zos {p:List UInt8} (hp:∀ c∈p,¬ c.toNat=47) {c:UInt8} (hc:c.toNat=47) (r:List UInt8) : zaV (p++c :: r)=p :: zaV r:=by
 induction p with
 | nil=>exact zc5 r hc
 | cons a p ih=>
  have:=ih (fun c hc=>hp c (yv _ hc))
  exact zcE (hp a yp) this
theorem zot {p:List UInt8} (hp:∀ c∈p,¬ c.toNat=47) : zaV p=[p]:=by
 induction p with
 | nil=>rfl
 | cons a p ih=>
  have:=ih (fun c hc=>hp c (yv _ hc))
  exact zcE (hp a yp) this
theorem zjc.piece {l:List UInt8} {f k:Nat} (h:zjc l f k) : ∀ c∈(l.drop f).take (k - f),¬ c.toNat=47:=by
 intro c hc
 obtain⟨i,hi,rfl⟩:=List.mem_iff_getElem.1 hc
 rw[ym,yu] at hi
 refine h (f+i) (by omega) (by omega) _ ?_
 rw[List.getElem_take,List.getElem_drop,yx (by omega)]
theorem zjc.cut {l:List UInt8} {f k:Nat} (h:zjc l f k) (hfk:f<=k) (hk:k < l.length) (hc:l[k].toNat=47) : zaV (l.drop f)=(l.drop f).take (k - f) :: zaV (l.drop (k+1)):=by
 have e:l.drop f=(l.drop f).take (k - f)++l[k] :: l.drop (k+1):=by
  have h1:=(List.take_append_drop (k - f) (l.drop f)).symm
  rw[List.drop_drop,show f+(k - f)=k from by omega,List.drop_eq_getElem_cons hk] at h1
  exact h1
 have h2:=zos h.piece hc (l.drop (k+1))
 rw[← e] at h2
 exact h2
theorem zjc.last {l:List UInt8} {f:Nat} (h:zjc l f l.length) : zaV (l.drop f)=[l.drop f]:=by
 have hp:=h.piece
 rw[yq (by rw[yu]; omega)] at hp
 exact zot hp
theorem zjc.snoc {l:List UInt8} {f k:Nat} (h:zjc l f k) (hk:k < l.length) (hc:¬ l[k].toNat=47) : zjc l f (k+1):=by
 intro m h1 h2 c hm
 by_cases e:m=k
 ·subst e; rw[yx hk] at hm; simp at hm; subst hm; exact hc
 ·exact h m h1 (by omega) c hm
theorem zjc.none (l:List UInt8) (k:Nat) : zjc l k k:=fun m h1 h2=>by omega
theorem ze9 {l p:List UInt8} {ps:List (List UInt8)} (h:zaV l=p :: ps) : ziA l=(zau p).bind fun t=>(ps.mapM zau).map (t :: ·):=by
 unfold ziA; rw[h,List.mapM_cons]
 cases zau p with
 | none=>rfl
 | some t=>cases List.mapM zau ps <;> rfl
def zl1 (l:List UInt8) (f:Nat) (done:List (List UInt8)) : Prop:=ziA (l.drop 1)=(ziA (l.drop f)).map (done++·)
theorem zl1.cut {l:List UInt8} {f k:Nat} {done:List (List UInt8)} {t:List UInt8} (h:zl1 l f done) (hn:zjc l f k) (hfk:f<=k) (hk:k < l.length) (hc:l[k].toNat=47) (hu:zau ((l.drop f).take (k - f))=some t) : zl1 l (k+1) (done++[t]):=by
 unfold zl1 at *
 rw[h,ze9 (hn.cut hfk hk hc),hu]
 show Option.map (done++·) (Option.map (t :: ·) (ziA (l.drop (k+1))))=_
 rw[Option.map_map]; congr 1; funext x; simp
theorem zl1.cutBad {l:List UInt8} {f k:Nat} {done:List (List UInt8)} (h:zl1 l f done) (hn:zjc l f k) (hfk:f<=k) (hk:k < l.length) (hc:l[k].toNat=47) (hu:zau ((l.drop f).take (k - f))=none) : ziA (l.drop 1)=none:=by
 unfold zl1 at h; rw[h,ze9 (hn.cut hfk hk hc),hu]; rfl
theorem zl1.last {l:List UInt8} {f:Nat} {done:List (List UInt8)} {t:List UInt8} (h:zl1 l f done) (hn:zjc l f l.length) (hu:zau ((l.drop f).take (l.length - f))=some t) : ziA (l.drop 1)=some (done++[t]):=by
 rw[yq (by rw[yu]; omega)] at hu
 unfold zl1 at h; rw[h,ze9 hn.last,hu]; rfl
theorem zl1.lastBad {l:List UInt8} {f:Nat} {done:List (List UInt8)} (h:zl1 l f done) (hn:zjc l f l.length) (hu:zau ((l.drop f).take (l.length - f))=none) : ziA (l.drop 1)=none:=by
 rw[yq (by rw[yu]; omega)] at hu
 unfold zl1 at h; rw[h,ze9 hn.last,hu]; rfl
theorem ziB {l:List UInt8} (h0:0 < l.length) (hc:l[0].toNat=47) : zar l=ziA (l.drop 1):=by
 cases l with
 | nil=>simp at h0
 | cons c r=>simp only[List.getElem_cons_zero] at hc; rw[zar,yg hc]; rfl
theorem zkk {l:List UInt8} (h0:0 < l.length) (hc:¬ l[0].toNat=47) : zar l=none:=by
 cases l with
 | nil=>simp at h0
 | cons c r=>simp only[List.getElem_cons_zero] at hc; rw[zar,yf hc]
theorem zcg (s:ByteArray) (f k:Nat) : (s.extract f k).data.toList=(s.data.toList.drop f).take (k - f):=by
 exact Lib.extract_data s f k
theorem zgj (s:ByteArray) (w:World) (hs:s.size<=1048576) :
  Calls Tryz.prog 107 #[.string s] w fun e w'=>e = .returned (zni (zau s.data.toList))/\Below w.heap.size w w':=by
 obtain⟨i0,hi,hz0,hz1,hz2⟩:=info_parts zkj
 go_enter Tryz.func107,Tryz.ntmps107
 go_wp2
 go_loopw [4,5] (fun v i wr=>∃ (j:Nat) (acc:List UInt8),j<=s.size/\i = .int .i64 j/\wr.ownsRow w.heap.size 5 1 v (Lib.byteCells acc).length (Lib.byteCells acc)/\Below w.heap.size w wr/\(Lib.byteCells acc).length<=j/\zki s.data.toList j acc) (fun _ i _=>s.size - (intOf i).toNat)
 case atStart=>exact⟨0,[],yt _,rfl,World.ownsRow_lit w #[] 0 (ye _) (by unfold maxLen; omega) rfl,(yH _ _).alloc (ye _) _,ye _,zki.start _⟩
 case round=>
  obtain⟨j,acc,hj,rfl,hown,hb,hal,hun⟩:=hrel
  have hwsz:=hb.size
  have HU:=zab hun
  clear hun
  by_cases hjs:j < s.size
  ·have hd:=zax s j hjs
   have HB:=zab hb
   clear hb
   by_cases h126:(s[j].toNat:Int)=126
   ·have t1:((s[j].toNat:Int) != 126)=false:=by simpa using h126
    by_cases h2:j+1 < s.size
    ·have hd2:=zax s (j+1) h2
     by_cases h48:(s[j+1].toNat:Int)=48
     ·have a0:atB s (j+1) 48=true:=by rw[zdX h2]; simpa using h48
      have HS:Hid (zau (s.data.toList.drop j)=(zau (s.data.toList.drop (j+2))).map ([126]++·)):=by show _=_; rw[hd,hd2,zlX _ h126 h48]
      clear h48
      clear h126 hd hd2
      go_wp2_with (first | (go_at_call 114; refine (zdt s _ (j+1) (by omega) _ _).mono ?_; rintro e w' ⟨rfl,rfl⟩) | (at_builtin; refine wpList_append_own _ rfl (.tmp 27) (.tmp 28) 160 rfl w.heap.size 5 i0 (.int .u8 0) 1 1 Tryz.underlying160 hi hz0 hz1 hz2 rfl (by decide) _ _ _ rfl (hown.alloc _) ⟨wr.heap.size,0,none⟩ 1 1 [.int .u8 126] rfl rfl (zlZ _ _ _) (zsg _ _) (by unfold maxLen; omega) (by omega) (by simp; omega) ?_))
      intro v2 w2 hown2 hgrow2 _
      have hb2:Below w.heap.size w w2:=((uh HB).alloc hwsz _).grown hgrow2 (by simp; omega) (fun k hk=>(hown.lt k hk).1)
      have hown2':=zaI (m:=[126]) hown2 (by simp[Lib.byteCells]) rfl
      clear hown2 hgrow2 hown HB
      go_wp2
      go_roundw
      case rel=>exact⟨j+2,acc++[126],by omega,by go_num,hown2',hb2,by simp[Lib.byteCells] at hal ⊢; omega,(uh HU).step (uh HS)⟩
      case measure=>simp[intOf]; omega
     ·by_cases h49:(s[j+1].toNat:Int)=49
      ·have a0:atB s (j+1) 48=false:=by rw[zdX h2]; simpa using h48
       have a1:atB s (j+1) 49=true:=by rw[zdX h2]; simpa using h49
       have HS:Hid (zau (s.data.toList.drop j)=(zau (s.data.toList.drop (j+2))).map ([47]++·)):=by show _=_; rw[hd,hd2,zlY _ h126 h49]
       clear h48 h49
       clear h126 hd hd2
       go_wp2_with (first | (go_at_call 114; refine (zdt s _ (j+1) (by omega) _ _).mono ?_; rintro e w' ⟨rfl,rfl⟩) | (at_builtin; refine wpList_append_own _ rfl (.tmp 36) (.tmp 37) 160 rfl w.heap.size 5 i0 (.int .u8 0) 1 1 Tryz.underlying160 hi hz0 hz1 hz2 rfl (by decide) _ _ _ rfl (hown.alloc _) ⟨wr.heap.size,0,none⟩ 1 1 [.int .u8 47] rfl rfl (zlZ _ _ _) (zsg _ _) (by unfold maxLen; omega) (by omega) (by simp; omega) ?_))
       intro v2 w2 hown2 hgrow2 _
       have hb2:Below w.heap.size w w2:=((uh HB).alloc hwsz _).grown hgrow2 (by simp; omega) (fun k hk=>(hown.lt k hk).1)
       have hown2':=zaI (m:=[47]) hown2 (by simp[Lib.byteCells]) rfl
       clear hown2 hgrow2 hown HB
       go_wp2
       go_roundw
       case rel=>exact⟨j+2,acc++[47],by omega,by go_num,hown2',hb2,by simp[Lib.byteCells] at hal ⊢; omega,(uh HU).step (uh HS)⟩
       case measure=>simp[intOf]; omega
      ·have a0:atB s (j+1) 48=false:=by rw[zdX h2]; simpa using h48
       have a1:atB s (j+1) 49=false:=by rw[zdX h2]; simpa using h49
       have HF:=zab ((uh HU).bad (by rw[hd,hd2,zgS _ h126 h48 h49]))
       clear h126 h48 h49 hd hd2 hown
       go_wp2_with (go_at_call 114; refine (zdt s _ (j+1) (by omega) _ _).mono ?_; rintro e w' ⟨rfl,rfl⟩)
       go_ret2
       exact⟨by rw[uh HF]; rfl,uh HB⟩
    ·have a0:atB s (j+1) 48=false:=zfQ h2
     have a1:atB s (j+1) 49=false:=zfQ h2
     have HF:=zab ((uh HU).bad (by rw[hd,zeo s (j+1) h2,zgR h126]))
     clear h126 hd hown
     go_wp2_with (go_at_call 114; refine (zdt s _ (j+1) (by omega) _ _).mono ?_; rintro e w' ⟨rfl,rfl⟩)
     go_ret2
     exact⟨by rw[uh HF]; rfl,uh HB⟩
   ·have t1:((s[j].toNat:Int) != 126)=true:=by simpa using h126
    have HS:Hid (zau (s.data.toList.drop j)=(zau (s.data.toList.drop (j+1))).map ([s[j]]++·)):=by show _=_; rw[hd,zgQ _ h126]
    clear h126 hd
    go_wp2_with (at_builtin; refine wpList_append_own _ rfl (.tmp 17) (.tmp 21) 160 rfl w.heap.size 5 i0 (.int .u8 0) 1 1 Tryz.underlying160 hi hz0 hz1 hz2 rfl (by decide) _ _ _ rfl (hown.alloc _) ⟨wr.heap.size,0,none⟩ 1 1 [.int .u8 s[j].toNat] rfl rfl (zlZ _ _ _) (zsg _ _) (by unfold maxLen; omega) (by omega) (by simp; omega) ?_)
    intro v2 w2 hown2 hgrow2 _
    have hb2:Below w.heap.size w w2:=((uh HB).alloc hwsz _).grown hgrow2 (by simp; omega) (fun k hk=>(hown.lt k hk).1)
    have hown2':=zaI (m:=[s[j]]) hown2 (by simp[Lib.byteCells]) rfl
    clear hown2 hgrow2 hown HB
    go_wp2
    go_roundw
    case rel=>exact⟨j+1,acc++[s[j]],by omega,by go_num,hown2',hb2,by simp[Lib.byteCells] at hal ⊢; omega,(uh HU).step (uh HS)⟩
    case measure=>simp[intOf]; omega
  ·have hf:=(uh HU).fin (by rw[zak]; omega)
   have HF:=zab hf
   have hcv:=zb7 hown
   clear hf hown
   go_wp2
   go_ret2
   exact⟨by rw[uh HF]; rfl,hb⟩
theorem zdu (s:ByteArray) (w:World) (hs:s.size<=1048576) :
  Calls Tryz.prog 67 #[.string s] w fun e w'=>∃ v,e = .returned (.tuple #[v,.bool (zar s.data.toList).isSome])/\OT w' w.heap.size v ((zar s.data.toList).getD [])/\Below w.heap.size w w':=by
 obtain⟨i0,hi,hz0,hz1,hz2⟩:=info_parts zfR
 have hown0:=World.ownsRow_lit (base:=w.heap.size) (e:=9) (size:=1) w #[] 0 (ye _) (by unfold maxLen; omega) rfl
 have hbel0:Below w.heap.size w (w.alloc (.cells #[] 9)):=(yH _ _).alloc (ye _) _
 by_cases h0:s.size=0
 ·have hse:s=⟨#[]⟩:=by
   have:s.data.toList=[]:=yN (by rw[zak]; exact h0)
   obtain⟨⟨l⟩⟩:=s; simp at this; subst this; rfl
  subst hse
  have HO:=zab hown0
  clear hown0 h0
  go_enter Tryz.func67,Tryz.ntmps67
  go_wp2
  go_ret2
  exact⟨_,rfl,uh HO,hbel0⟩
 ·have hne:s.toList.isEmpty=false:=by
   rw[Lib.toList_data,List.isEmpty_eq_false_iff]; intro e; exact h0 (by rw[← zak,e]; rfl)
  have h0':0 < s.size:=by omega
  have hdl:=zak s
  by_cases h47:(s[0].toNat:Int)=47
  ·have t1:((s[0].toNat:Int) != 47)=false:=by simpa using h47
   have HP:Hid (zar s.data.toList=ziA (s.data.toList.drop 1)):=ziB (by omega) (by show s[0].toNat=47; omega)
   have HO:=zab hown0
   clear hown0 h47
   generalize hl:s.data.toList=l at *
   have HL:=zab hl
   clear hl
   go_enter Tryz.func67,Tryz.ntmps67
   go_wp2
   go_loopw [4,5,6] (fun v fr i wr=>∃ (k f:Nat) (done:List (List UInt8)),1<=k/\k<=s.size+1/\1<=f/\f<=k/\i = .int .i64 k/\fr = .int .i64 f/\done.length<=k/\OT wr w.heap.size v done/\Below w.heap.size w wr/\(k<=s.size->zjc l f k/\zl1 l f done)/\(k=s.size+1->ziA (l.drop 1)=some done)) (fun _ _ i _=>s.size+1 - (intOf i).toNat)
   case atStart=>exact⟨1,1,[],by omega,by omega,by omega,by omega,rfl,rfl,by simp,uh HO,hbel0,fun _=>⟨zjc.none _ _,by simp[zl1]⟩,fun h=>by omega⟩
   case round=>
    obtain⟨k,f,done,hk1,hk2,hf1,hfk,rfl,rfl,hdl2,hown,hb,hA,hZ⟩:=hrel
    have hwsz:=hb.size
    have HA:=zab hA
    have HZ:=zab hZ
    clear hA hZ HO
    by_cases hks:k<=s.size
    ·by_cases hke:k=s.size
     ·have hA:=uh HA hks
      have hkl:k=l.length:=by omega
      have hlast:zjc l f l.length:=by rw[← hkl]; exact hA.1
      subst hke
      have t2:((s.size:Int) == (s.size:Int))=true:=by simp
      have hsz:(s.extract f s.size).size<=1048576:=by rw[← zak,zcg,ym,yu,zak]; omega
      have hex:=zcg s f s.size
      rw[uh HL] at hex
      have C:=zgj (s.extract f s.size) wr hsz
      rw[hex] at C
      cases ho:zau ((l.drop f).take (s.size - f)) with
      | none=>
       rw[ho,zeZ] at C
       have HC:=zab C
       have HF:Hid (ziA (l.drop 1)=none):=by have:=hA.2.lastBad hlast (by rw[← hkl]; exact ho); exact this
       clear C ho hex hA hlast hkl HA HZ
       go_wp2_with fail
       refine (uh HC).mono ?_
       rintro e w1 ⟨rfl,hb1⟩
       have B1:=hb.trans (hb1.mono hwsz)
       have hown1:=World.ownsRow_lit (base:=w.heap.size) (e:=9) (size:=1) w1 #[] 0 B1.size (by unfold maxLen; omega) rfl
       have HO1:=zab hown1
       clear hown hb1 HC hown1
       go_wp2
       go_ret2
       exact⟨_,by rw[uh HP,uh HF]; rfl,by rw[uh HP,uh HF]; exact uh HO1,B1.alloc B1.size _⟩
      | some t=>
       rw[ho,zeY] at C
       have HC:=zab C
       have HF:Hid (ziA (l.drop 1)=some (done++[t])):=by have:=hA.2.last hlast (by rw[← hkl]; exact ho); exact this
       clear hA hlast hkl HA HZ C ho hex
       go_wp2_with fail
       refine (uh HC).mono ?_
       rintro e w1 ⟨rfl,hb1⟩
       have B1:=hb.trans (hb1.mono hwsz)
       have own1:=zaj hown hb1
       have hw1:=B1.size
       clear hown hb1 HC
       go_wp2_with (at_builtin; (refine wpList_append_own _ rfl (.tmp 44) (.tmp 46) 55 rfl w.heap.size 9 i0 (.string ByteArray.empty) 1 16 Tryz.underlying55 hi hz0 hz1 hz2 rfl (by decide) _ _ _ rfl (own1.alloc _) ⟨w1.heap.size,0,none⟩ 1 1 [.string (baT t)] rfl rfl (zlZ _ _ _) (zgU _) (by unfold maxLen; omega) (by omega) (by simp; omega) ?_))
       intro v2 w2 hown2 hgrow2 _
       have B2:Below w.heap.size w w2:=(B1.alloc hw1 _).grown hgrow2 (by simp; omega) (fun k hk=>(own1.lt k hk).1)
       have own2:=OT.step (t:=t) hown2
       clear hown2 hgrow2 own1
       go_wp2
       go_roundw
       case rel=>exact⟨s.size+1,s.size+1,done++[t],by omega,by omega,by omega,by omega,by go_num,by go_num,by simp; omega,own2,B2,fun h=>by omega,fun _=>uh HF⟩
       case measure=>simp[intOf]
     ·have hlt:k < s.size:=by omega
      have t2:((k:Int) == (s.size:Int))=false:=by simp; omega
      by_cases hc:(s[k].toNat:Int)=47
      ·have t3:((s[k].toNat:Int) == 47)=true:=by simpa using hc
       have hA:=uh HA hks
       have hcl:k < l.length:=by omega
       have hck : l[k].toNat = 47 := by have e : l[k].toNat = s[k].toNat := by (have e := uh HL; subst e; rfl)
                                        omega
       have hsz:(s.extract f k).size<=1048576:=by rw[← zak,zcg,ym,yu,zak]; omega
       have hex:=zcg s f k
       rw[uh HL] at hex
       have C:=zgj (s.extract f k) wr hsz
       rw[hex] at C
       cases ho:zau ((l.drop f).take (k - f)) with
       | none=>
        rw[ho,zeZ] at C
        have HC:=zab C
        have HF:Hid (ziA (l.drop 1)=none):=hA.2.cutBad hA.1 hfk hcl hck ho
        clear C ho hex
        go_wp2_with fail
        refine (uh HC).mono ?_
        rintro e w1 ⟨rfl,hb1⟩
        have B1:=hb.trans (hb1.mono hwsz)
        have hown1:=World.ownsRow_lit (base:=w.heap.size) (e:=9) (size:=1) w1 #[] 0 B1.size (by unfold maxLen; omega) rfl
        have HO1:=zab hown1
        clear hown hb1 HC hown1
        go_wp2
        go_ret2
        exact⟨_,by rw[uh HP,uh HF]; rfl,by rw[uh HP,uh HF]; exact uh HO1,B1.alloc B1.size _⟩
       | some t=>
        rw[ho,zeY] at C
        have HC:=zab C
        have HF:=zab (hA.2.cut hA.1 hfk hcl hck ho)
        clear hA hcl hck hc HA HZ
        clear C ho hex
        go_wp2_with fail
        refine (uh HC).mono ?_
        rintro e w1 ⟨rfl,hb1⟩
        have B1:=hb.trans (hb1.mono hwsz)
        have own1:=zaj hown hb1
        have hw1:=B1.size
        clear hown hb1 HC
        go_wp2_with (at_builtin; refine wpList_append_own _ rfl (.tmp 44) (.tmp 46) 55 rfl w.heap.size 9 i0 (.string ByteArray.empty) 1 16 Tryz.underlying55 hi hz0 hz1 hz2 rfl (by decide) _ _ _ rfl (own1.alloc _) ⟨w1.heap.size,0,none⟩ 1 1 [.string (baT t)] rfl rfl (zlZ _ _ _) (zgU _) (by unfold maxLen; omega) (by omega) (by simp; omega) ?_)
        intro v2 w2 hown2 hgrow2 _
        have B2:Below w.heap.size w w2:=(B1.alloc hw1 _).grown hgrow2 (by simp; omega) (fun k hk=>(own1.lt k hk).1)
        have own2:=OT.step (t:=t) hown2
        clear hown2 hgrow2 own1
        go_wp2
        go_roundw
        case rel=>exact⟨k+1,k+1,done++[t],by omega,by omega,by omega,by omega,by go_num,by go_num,by simp; omega,own2,B2,fun _=>⟨zjc.none _ _,uh HF⟩,fun h=>by omega⟩
        case measure=>simp[intOf]; omega
      ·have t3:((s[k].toNat:Int) == 47)=false:=by simpa using hc
       go_wp2
       go_roundw
       case rel=>
        have ⟨hn,ht⟩:=uh HA hks
        have hcl:k < l.length:=by omega
        have hck:l[k].toNat=s[k].toNat:=by have e:=uh HL; subst e; rfl
        exact⟨k+1,f,done,by omega,by omega,hf1,by omega,by go_num,rfl,by omega,hown,hb,fun _=>⟨hn.snoc hcl (by omega),ht⟩,fun h=>by omega⟩
       case measure=>simp[intOf]; omega
    ·have HF:=zab (uh HZ (by omega))
     go_wp2
     go_ret2
     exact⟨_,by rw[uh HP,uh HF]; rfl,by rw[uh HP,uh HF]; exact hown,hb⟩
  ·have t1:((s[0].toNat:Int) != 47)=true:=by simpa using h47
   have HP:Hid (zar s.data.toList=none):=zkk (by omega) (fun e=>h47 (by show ((s[0].toNat:Int))=47; have:s.data.toList[0].toNat=s[0].toNat:=rfl; omega))
   have HO:=zab hown0
   clear hown0 h47
   go_enter Tryz.func67,Tryz.ntmps67
   go_wp2
   go_ret2
   exact⟨_,by rw[uh HP]; rfl,by rw[uh HP]; exact uh HO,hbel0⟩
def dgM (k:Nat) : UInt8:=UInt8.ofNat (48+k % 10)
def zgk:Nat->Nat->ByteArray->ByteArray
 | 0,_,acc=>acc
 | f+1,k,acc=>if k=0 then acc else zgk f (k / 10) (⟨#[dgM k]⟩++acc)
def zaD (k:Nat) : ByteArray:=⟨#[109]⟩++zgk k k ByteArray.empty
theorem zsi (k:Nat) : ((dgM k).toNat:Int)=48+(k:Int) % 10:=by
 have:(dgM k).toNat=48+k % 10:=by unfold dgM; rw[UInt8.toNat_ofNat']; omega
 omega
theorem zl2 (w:World) (x:UInt8) (n:Int) (h:(x.toNat:Int)=n) : (convert 160 9 (.slice (some ⟨w.heap.size,0,none⟩) 1 1)).run Tryz.prog (w.alloc (.cells #[.int .u8 n] 5)) = .ok (.string ⟨#[x]⟩) (w.alloc (.cells #[.int .u8 n] 5)):=by
 subst h
 exact run_convert_bytes_back (P:=Tryz.prog) _ 160 9 5 ⟨w.heap.size,0,none⟩ 1 [x] Tryz.underlying160 Tryz.underlying5 Tryz.underlying9 (fun j hj=>by
  simp at hj; subst hj
  exact zlZ w 5 _ 0 _ rfl)
theorem zuR (f k:Nat) (acc:ByteArray) (h:0 < k) : zgk (f+1) k acc=zgk f (k / 10) (⟨#[dgM k]⟩++acc):=by
 rw[zgk,yf (by omega)]
theorem znm (x:UInt8) : (⟨#[x]⟩ : ByteArray).size=1:=rfl
theorem zsj (a b:ByteArray) : (a++b).size=a.size+b.size:=ByteArray.size_append
theorem zc8 (k0:Nat) (w:World) (h1:1<=k0) (h2:k0<=1099511627776) :
  Calls Tryz.prog 61 #[.int .i64 k0] w fun e w'=>e = .returned (.string (zaD k0))/\Below w.heap.size w w':=by
 go_enter Tryz.func61,Tryz.ntmps61
 go_wp2
 go_loopw [0,3] (fun i o wr=>∃ (f k:Nat) (acc:ByteArray),k<=f/\k<=k0/\i = .int .i64 k/\o = .string acc/\acc.size+f<=k0/\zgk f k acc=zgk k0 k0 ByteArray.empty/\Below w.heap.size w wr) (fun i _ _=>(intOf i).toNat)
 case atStart=>exact⟨k0,k0,ByteArray.empty,ye _,ye _,rfl,rfl,by show 0+k0<=k0; omega,rfl,yH _ _⟩
 case round=>
  obtain⟨f,k,acc,hkf,hk0,rfl,rfl,hac,hmk,hb⟩:=hrel
  have HM:=zab hmk
  clear hmk
  by_cases hk:0 < k
  ·have hk':(0:Int) < (k:Int):=by omega
   obtain⟨f,rfl⟩ : ∃ f',f=f'+1:=⟨f - 1,by omega⟩
   have hcv:=zl2 wr (dgM k) _ (zsi k)
   have hadd:=run_string_add_sum (P:=Tryz.prog) (wr.alloc (.cells #[.int .u8 (48+(k:Int) % 10)] 5)) ⟨#[dgM k]⟩ acc (by rw[znm]; omega)
   have HB:=zab (hb.alloc hb.size (.cells #[.int .u8 (48+(k:Int) % 10)] 5))
   have HS:Hid ((⟨#[dgM k]⟩++acc:ByteArray).size=1+acc.size):=zsj _ _
   rw[zuR f k acc hk] at HM
   clear hb
   generalize (⟨#[dgM k]⟩++acc:ByteArray)=acc2 at *
   go_wp2
   go_roundw
   case rel=>exact⟨f,k / 10,acc2,by omega,by omega,by go_num,rfl,by rw[uh HS]; omega,uh HM,uh HB⟩
   case measure=>simp[intOf]; omega
  ·have HF:Hid (zgk k0 k0 ByteArray.empty=acc):=by
    have e:=uh HM
    have hk':k=0:=by omega
    subst hk'
    rw[← e]; cases f with
    | zero=>rfl
    | succ f=>rfl
   have hadd:=run_string_add_sum (P:=Tryz.prog) wr ⟨#[109]⟩ acc (by rw[znm]; omega)
   have HE:Hid (zaD k0=⟨#[109]⟩++acc):=by have e:=uh HF; show _=_; unfold zaD; rw[e]
   clear HF HM
   generalize (⟨#[109]⟩++acc:ByteArray)=acc2 at *
   go_wp2
   go_ret
   exact⟨by rw[uh HE]; rfl,hb⟩
theorem zpL:(Tryz.prog.info? 192).map (·.size)=some 2:=by kernel_rfl
theorem zuS:liesAt Tryz.prog Tryz.prog.depth 192 (2 / Tryz.prog.cellsOf 192) 0 192 1=true:=by kernel_rfl
theorem infoByte:(Tryz.prog.info? 5).map (fun i=>(i.zero,i.size,i.bytes))=some (some (.int .u8 0),1,1):=by kernel_rfl
theorem ziC (b:Nat) (w:World) (h0:w.cell? ⟨b,0,none⟩=some (.pointer (some ⟨b,0,none⟩))) :
  Calls Tryz.prog 214 #[.pointer (some ⟨b,0,none⟩)] w fun e w'=>e = .returned (.tuple #[])/\w'=w:=by
 obtain⟨j,hj,_⟩:=yz.1 zpL
 go_enter Tryz.func214,Tryz.ntmps214
 go_wp2
 rw[Lib.run_neq_ptr_same w _ Tryz.underlying190 hj]
 go_wp2
 go_end0
 exact⟨rfl,rfl⟩
theorem zgV (b:Nat) (w:World) (h0:w.cell? ⟨b,0,none⟩=some (.pointer none)) (hsh:w.shape? b=some (192,2)) (hfz:w.frozen? ⟨b,0,none⟩=false) :
  Calls Tryz.prog 214 #[.pointer (some ⟨b,0,none⟩)] w fun e w'=>e = .returned (.tuple #[])/\w'=w.setCell ⟨b,0,none⟩ (.pointer (some ⟨b,0,none⟩)):=by
 obtain⟨j,hj,hjs⟩:=yz.1 zpL
 go_enter Tryz.func214,Tryz.ntmps214
 go_wp2
 rw[Lib.run_to_unsafe w ⟨b,0,none⟩ Tryz.underlying190 Tryz.underlying238 hj (by rw[hjs]; decide) hsh (Nat.zero_lt_succ 1)]
 simp only[Result.andThen]
 rw[Oper.upon_value]
 go_wp2
 rw[run_callFunc_extern Tryz.func240 (by kernel_rfl) (by kernel_rfl) (by kernel_rfl) (e:=Extern.AbiNoEscape.same) (by kernel_rfl)]
 rw[Lib.run_noEscape]
 simp only[Result.andThen]
 rw[Oper.upon_value]
 go_wp2
 rw[Lib.run_from_unsafe w ⟨b,0,none⟩ Tryz.underlying238 Tryz.underlying190 hj hsh zuS]
 simp only[Result.andThen]
 rw[Oper.upon_value]
 go_wp2
 go_end0
 exact⟨rfl,rfl⟩
theorem zxV (B b:Nat) (bs:List Value) (w:World) (h:Lib.IsBuilder 192 5 B b bs w) :
  Calls Tryz.prog 214 #[.pointer (some ⟨b,0,none⟩)] w fun e w'=>e = .returned (.tuple #[])/\(Lib.BuilderAt 192 5 B b (.pointer (some ⟨b,0,none⟩)) bs w'/\Below B w w'):=by
 rcases h with h | h
 ·refine (zgV b w h.cell0 h.shape h.frozen0).mono ?_
  rintro e w' ⟨rfl,rfl⟩
  exact⟨rfl,h.used _,(yH B w).setCell (p:=⟨b,0,none⟩) h.1 _⟩
 ·refine (ziC b w h.cell0).mono ?_
  rintro e w' ⟨rfl,rfl⟩
  exact⟨rfl,h,yH B _⟩
theorem zgW (B b:Nat) (bs:List Value) (c:Int) (w:World) (h:Lib.IsBuilder 192 5 B b bs w) (hlen:bs.length+1<=140737488355328) (hBw:B<=w.heap.size) :
  Calls Tryz.prog 180 #[.pointer (some ⟨b,0,none⟩),.int .u8 c] w fun e w'=>e = .returned .nilIface/\(Lib.BuilderAt 192 5 B b (.pointer (some ⟨b,0,none⟩)) (bs++[.int .u8 c]) w'/\Below B w w'):=by
 obtain⟨i0,hi,hz0,hz1,hz2⟩:=info_parts infoByte
 go_enter Tryz.func180,Tryz.ntmps180
 go_wp2_with (go_at_call 214; refine (zxV B b bs _ h).mono ?_)
 rintro e w1 ⟨rfl,h1,hb1⟩
 obtain⟨hB,v,hbk,hown,hne⟩:=h1
 have c0:w1.cell? ⟨b,0,none⟩=some (.pointer (some ⟨b,0,none⟩)):=by rw[yF hbk]; rfl
 have c1:w1.cell? ⟨b,1,none⟩=some v:=by rw[yF hbk]; rfl
 go_wp2_with (at_builtin; refine wpList_append_own _ rfl _ _ 160 rfl B 5 i0 (.int .u8 0) 1 1 Tryz.underlying160 hi hz0 hz1 hz2 rfl (by decide) _ _ _ rfl (hown.alloc _) ⟨w1.heap.size,0,none⟩ 1 1 [.int .u8 c] rfl rfl ?c1 ?c2 ?c3 ?c4 ?c5 ?_)
 case c1=>
  intro j u hj
  match j,hj with
  | 0,hj=>simp at hj; subst hj; simp[Addr.add]
 case c2=>intro u hu; simp at hu; subst hu; rfl
 case c3=>unfold maxLen; omega
 case c4=>omega
 case c5=>have:=hb1.size; simp; omega
 intro v' w2 hown' hgrow _
 have hlt:b < w1.heap.size:=by
  rcases Nat.lt_or_ge b w1.heap.size with h' | h'
  ·exact h'
  ·simp[Array.getElem?_eq_none h'] at hbk
 have hb2:w2.heap[b]?=some (.cells #[.pointer (some ⟨b,0,none⟩),v] 192 (0,0)):=by
  rw[hgrow.block b (by simp; omega) (fun e=>hne e.symm),Lib.alloc_old w1 _ b hlt]
  exact hbk
 have d0:w2.cell? ⟨b,0,none⟩=some (.pointer (some ⟨b,0,none⟩)):=by rw[yF hb2]; rfl
 have d1:w2.cell? ⟨b,1,none⟩=some v:=by rw[yF hb2]; rfl
 have f1:w2.frozen? ⟨b,1,none⟩=false:=yI hb2 1
 obtain⟨g,cap,rfl⟩ : ∃ g cap,v' = .slice (some ⟨g,0,none⟩) (bs.length+1) cap:=by
  rcases hown'.2 with ⟨_,h0⟩ | ⟨g,cap,cur,hv,_⟩
  ·omega
  ·exact⟨g,cap,hv⟩
 go_wp2
 go_ret
 refine⟨rfl,?_,?_⟩
 ·exact Lib.BuilderAt.put (T:=192) (e:=5) hB hb2 (bs':=bs++[.int .u8 c]) (by simpa using hown') (by decide)
 ·exact ((hb1.alloc (by have:=hb1.size; omega) _).grown hgrow (by have:=hb1.size; simp; omega) (fun k hk=>(hown.lt k hk).1)).setCell (p:=⟨b,1,none⟩) hB _
open Go.Shelf in
def zt0:Go.Shelf.Ren:=⟨fun | 169=>130 | n=>n,fun | 70=>190 | 9=>9 | 0=>0 | 72=>192 | 37=>160 | 127=>230 | 3=>3 | 5=>5 | n=>n,fun | n=>n⟩
theorem zuT:Go.Proofs.Lays.n169 Tryz.prog zt0:={
 mixed:=by kernel_rfl
 f169:=Tryz.func130.trans (congrArg some (by kernel_rfl))
 t0:=Tryz.underlying0
 a0:=Tryz.isAgg0
 z0:=Tryz.sizeOf0
 v0:=Tryz.zeroValue0
 t3:=Tryz.underlying3
 a3:=Tryz.isAgg3
 z3:=Tryz.sizeOf3
 v3:=Tryz.zeroValue3
 t9:=Tryz.underlying9
 a9:=Tryz.isAgg9
 z9:=Tryz.sizeOf9
 v9:=Tryz.zeroValue9
 t37:=Tryz.underlying160
 a37:=Tryz.isAgg160
 z37:=Tryz.sizeOf160
 v37:=Tryz.zeroValue160
 t70:=Tryz.underlying190
 a70:=Tryz.isAgg190
 z70:=Tryz.sizeOf190
 v70:=Tryz.zeroValue190
 t72:=Tryz.underlying192
 a72:=Tryz.isAgg192
 z72:=Tryz.sizeOf192
 v72:=Tryz.zeroValue192
 t127:=Tryz.underlying230
 a127:=Tryz.isAgg230
 z127:=Tryz.sizeOf230
 v127:=Tryz.zeroValue230 }
theorem zsk:Builder.Extra Tryz.prog zt0:={
 sizeBuilder:=by kernel_rfl
 liesBuilder:=by kernel_rfl
 t5:=Tryz.underlying5
 a5:=Tryz.isAgg5
 z5:=Tryz.sizeOf5
 v5:=Tryz.zeroValue5
 infoByte:=by kernel_rfl
 cellsByte:=by kernel_rfl
 sizeByte:=by kernel_rfl
 neB5:=by decide }
theorem zfa (B b:Nat) (l:List UInt8) (w:World) (h:Lib.IsBuilder 192 5 B b (Lib.byteCells l) w) (hBw:B<=w.heap.size) :
  Calls Tryz.prog 130 #[.pointer (some ⟨b,0,none⟩)] w fun e w'=>e = .returned (.string ⟨l.toArray⟩)/\Below B w w':=Any.Builder_String_any zuT zsk B b l w h hBw
abbrev IsB (B b:Nat) (l:List UInt8) (w:World) : Prop:=Lib.IsBuilder 192 5 B b (Lib.byteCells l) w
theorem IsB.byte {B b:Nat} {l:List UInt8} {c:UInt8} {w:World} {n:Int} (hn:n=(c.toNat:Int)) (h:Lib.BuilderAt 192 5 B b (.pointer (some ⟨b,0,none⟩)) (Lib.byteCells l++[.int .u8 n]) w) : IsB B b (l++[c]) w:=by
 subst hn; exact Or.inr (by rw[Lib.byteCells_append]; exact h)
theorem IsB.str {B b:Nat} {l:List UInt8} {s:ByteArray} {m:List UInt8} {w:World} (hm:m=s.data.toList) (h:Lib.BuilderAt 192 5 B b (.pointer (some ⟨b,0,none⟩)) (Lib.byteCells l++Lib.strCells s) w) : IsB B b (l++m) w:=by
 subst hm; exact Or.inr (by rw[Lib.byteCells_append]; exact h)
theorem IsB.cells {B b:Nat} {l m:List UInt8} {xs:List Value} {w:World} (hx:xs=Lib.byteCells m) (h:Lib.BuilderAt 192 5 B b (.pointer (some ⟨b,0,none⟩)) (Lib.byteCells l++xs) w) : IsB B b (l++m) w:=by
 subst hx; exact Or.inr (by rw[Lib.byteCells_append]; exact h)
theorem zkl (s:ByteArray) (w:World) (hs:s.size<=1048576) :
  Calls Tryz.prog 159 #[.string s] w fun e w'=>e = .returned (zni (zau s.data.toList))/\Below w.heap.size w w':=by
 go_enter Tryz.func159,Tryz.ntmps159
 go_wp2
 go_loopw [5] (fun i wr=>∃ (j:Nat) (acc:List UInt8),j<=s.size/\i = .int .i64 j/\IsB w.heap.size w.heap.size acc wr/\Below w.heap.size w wr/\(Lib.byteCells acc).length<=j/\zki s.data.toList j acc) (fun i _=>s.size - (intOf i).toNat)
 case atStart=>exact⟨0,[],yt _,rfl,Lib.fresh_isBuilder _ _ w,(yH _ _).alloc (ye _) _,ye _,zki.start _⟩
 case round=>
  obtain⟨j,acc,hj,rfl,hI,hb,hal,hun⟩:=hrel
  have hwsz:=hb.size
  have HU:=zab hun
  clear hun
  by_cases hjs:j < s.size
  ·have hd:=zax s j hjs
   by_cases h126:(s[j].toNat:Int)=126
   ·have t1:((s[j].toNat:Int) != 126)=false:=by simpa using h126
    by_cases h2:j+1 < s.size
    ·have hd2:=zax s (j+1) h2
     have t0:((j:Int)+1 == (s.size:Int))=false:=by simp; omega
     by_cases h48:(s[j+1].toNat:Int)=48
     ·have t2:((s[j+1].toNat:Int) == 48)=true:=by simpa using h48
      have HS:Hid (zau (s.data.toList.drop j)=(zau (s.data.toList.drop (j+2))).map ([126]++·)):=by show _=_; rw[hd,hd2,zlX _ h126 h48]
      clear h126 h48 hd hd2
      go_wp2_with (go_at_call 180; refine (zgW w.heap.size w.heap.size _ _ _ hI (by omega) hwsz).mono ?_)
      rintro e w2 ⟨rfl,h2,hb2⟩
      have h2':=IsB.byte (c:=126) rfl h2
      clear h2 hI
      go_wp2
      go_roundw
      case rel=>exact⟨j+2,acc++[126],by omega,by go_num,h2',hb.trans hb2,by simp[Lib.byteCells] at hal ⊢; omega,(uh HU).step (uh HS)⟩
      case measure=>simp[intOf]; omega
     ·by_cases h49:(s[j+1].toNat:Int)=49
      ·have t2:((s[j+1].toNat:Int) == 48)=false:=by simpa using h48
       have t3:((s[j+1].toNat:Int) == 49)=true:=by simpa using h49
       have HS:Hid (zau (s.data.toList.drop j)=(zau (s.data.toList.drop (j+2))).map ([47]++·)):=by show _=_; rw[hd,hd2,zlY _ h126 h49]
       clear h126 h48 h49 hd hd2
       go_wp2_with (go_at_call 180; refine (zgW w.heap.size w.heap.size _ _ _ hI (by omega) hwsz).mono ?_)
       rintro e w2 ⟨rfl,h2,hb2⟩
       have h2':=IsB.byte (c:=47) rfl h2
       clear h2 hI
       go_wp2
       go_roundw
       case rel=>exact⟨j+2,acc++[47],by omega,by go_num,h2',hb.trans hb2,by simp[Lib.byteCells] at hal ⊢; omega,(uh HU).step (uh HS)⟩
       case measure=>simp[intOf]; omega
      ·have t2:((s[j+1].toNat:Int) == 48)=false:=by simpa using h48
       have t3:((s[j+1].toNat:Int) == 49)=false:=by simpa using h49
       have HF:=zab ((uh HU).bad (by rw[hd,hd2,zgS _ h126 h48 h49]))
       clear h126 h48 h49 hd hd2 hI
       go_wp2
       go_ret2
       exact⟨by rw[uh HF]; rfl,hb⟩
    ·have t0:((j:Int)+1 == (s.size:Int))=true:=by simp; omega
     have HF:=zab ((uh HU).bad (by rw[hd,zeo s (j+1) h2,zgR h126]))
     clear h126 hd hI
     go_wp2
     go_ret2
     exact⟨by rw[uh HF]; rfl,hb⟩
   ·have t1:((s[j].toNat:Int) != 126)=true:=by simpa using h126
    have HS:Hid (zau (s.data.toList.drop j)=(zau (s.data.toList.drop (j+1))).map ([s[j]]++·)):=by show _=_; rw[hd,zgQ _ h126]
    clear h126 hd
    go_wp2_with (go_at_call 180; refine (zgW w.heap.size w.heap.size _ _ _ hI (by omega) hwsz).mono ?_)
    rintro e w2 ⟨rfl,h2,hb2⟩
    have h2':=IsB.byte (c:=s[j]) rfl h2
    clear h2 hI
    go_wp2
    go_roundw
    case rel=>exact⟨j+1,acc++[s[j]],by omega,by go_num,h2',hb.trans hb2,by simp[Lib.byteCells] at hal ⊢; omega,(uh HU).step (uh HS)⟩
    case measure=>simp[intOf]; omega
  ·have HF:=zab ((uh HU).fin (by rw[zak]; omega))
   go_wp2_with (go_at_call 130; refine (zfa w.heap.size w.heap.size acc _ hI hwsz).mono ?_)
   rintro e w2 ⟨rfl,hb2⟩
   clear hI
   go_wp2
   go_ret2
   exact⟨by rw[uh HF]; rfl,hb.trans hb2⟩
theorem zdZ (b:Nat) (w:World) (hb:b < 256) :
  Calls Tryz.prog 209 #[.int .u8 b] w fun e w'=>e = .returned (.bool (zbo b))/\w=w':=by
 by_cases h:48<=b
 ·have HD:Hid (zbo b=decide ((b:Int)<=57)):=by
   show _=_
   unfold zbo
   rw[yj h,Bool.true_and]
   apply decide_eq_decide.2; omega
  have h1:(48:Int)<=(b:Int):=by omega
  go_enter Tryz.func209,Tryz.ntmps209
  go_wp2
  go_ret
  exact⟨by rw[uh HD]; rfl,rfl⟩
 ·have HD:Hid (zbo b=false):=by
   show _=_
   unfold zbo
   rw[yk h,Bool.false_and]
  have h1:¬ (48:Int)<=(b:Int):=by omega
  go_enter Tryz.func209,Tryz.ntmps209
  go_wp2
  go_ret
  exact⟨by rw[uh HD]; rfl,rfl⟩
def zou (most:Nat) (t:List UInt8) : Prop:=1<=t.length/\t.length<=most/\∀ c∈t,zbo c.toNat=true
instance (most : Nat) (t : List UInt8) : Decidable (zou most t) := by unfold zou; infer_instance
def zpM (most:Nat) (t:List UInt8) : Value:=if zou most t then .tuple #[.int .i64 (zeN t:Int),.bool true] else .tuple #[.int .i64 0,.bool false]
theorem zgX (s:ByteArray) (most:Nat) (w:World) (hs:s.size<=1048576) (hm:most<=9) :
  Calls Tryz.prog 187 #[.string s,.int .i64 (most:Int)] w fun e w'=>e = .returned (zpM most s.data.toList)/\w=w':=by
 have hbad:¬ zou most s.data.toList->zpM most s.data.toList = .tuple #[.int .i64 0,.bool false]:=fun h=>by unfold zpM; rw[yf h]
 have hdl:=zak s
 by_cases h1:s.size < 1
 ·have HB:=zab (hbad (fun h=>by have:=h.1; omega))
  have hse:s=⟨#[]⟩:=by
   have:s.data.toList=[]:=yN (by omega)
   obtain⟨⟨l⟩⟩:=s; simp at this; subst this; rfl
  subst hse
  clear hbad h1 hdl hs
  go_enter Tryz.func187,Tryz.ntmps187
  go_wp2
  go_ret2
  exact⟨by rw[uh HB]; rfl,rfl⟩
 ·have tn:s.toList.isEmpty=false:=by
   rw[ByteArray.toList_eq,List.isEmpty_eq_false_iff]; intro e; rw[e] at hdl; simp at hdl; omega
  by_cases h6:most < s.size
  ·have HB:=zab (hbad (fun h=>by have:=h.2.1; omega))
   have t2:(most:Int) < (s.size:Int):=by omega
   clear hbad h1 h6
   go_enter Tryz.func187,Tryz.ntmps187
   go_wp2
   go_ret2
   exact⟨by rw[uh HB]; rfl,rfl⟩
  ·have t2:¬ (most:Int) < (s.size:Int):=by omega
   have h0:0 < s.size:=by omega
   have hI:(0:Int) < (s.size:Int):=by omega
   have HD:Hid (∀ (k:Nat) (hk:k < s.size) (w:World),Calls Tryz.prog 209 #[.int .u8 (s[k].toNat:Int)] w fun e w'=>e = .returned (.bool (zbo s[k].toNat))/\w=w'):=fun k hk w=>zdZ s[k].toNat w (UInt8.toNat_lt _)
   have HBAD:Hid (∀ k (hk:k < s.size),zbo s[k].toNat=false->zpM most s.data.toList = .tuple #[.int .i64 0,.bool false]):=fun k hk hd=>hbad (fun h=>by
    have:=h.2.2 s[k] (by rw[← zyv s k hk]; exact yr _)
    rw[hd] at this; cases this)
   have HGOOD:Hid ((∀ k (hk:k < s.size),zbo s[k].toNat=true)->zpM most s.data.toList = .tuple #[.int .i64 (zeN s.data.toList:Int),.bool true]):=fun hall=>by
    have hok:zou most s.data.toList:=⟨by omega,by omega,fun c hc=>by
     obtain⟨j,hj,rfl⟩:=List.getElem_of_mem hc
     exact hall j (by omega)⟩
    unfold zpM; rw[yg hok]
   have h6':s.size<=9:=by omega
   clear hbad h1 h6
   go_enter Tryz.func187,Tryz.ntmps187
   go_wp2
   go_loopw [6,18] (fun vv iv wr=>∃ k:Nat,k<=s.size/\iv = .int .i64 (k:Int)/\vv = .int .i64 ((zeN (s.data.toList.take k) : Nat) : Int)/\(∀ j (hj:j < s.size),j < k->zbo s[j].toNat=true)/\w=wr) (fun _ iv _=>s.size - (intOf iv).toNat)
   case atStart=>exact⟨0,yt _,rfl,rfl,fun j _ hj=>by omega,rfl⟩
   case round=>
    obtain⟨k,hk,rfl,rfl,hall,rfl⟩:=hrel
    have HALL:=zab hall
    clear hall
    by_cases hlt:k < s.size
    ·have hltI:(k:Int) < (s.size:Int):=by omega
     have HDk:=zab (uh HD k hlt w)
     have hst:s.data.toList.take (k+1)=s.data.toList.take k++[s[k]]:=zfP s k hlt
     have HST:Hid (zeN (s.data.toList.take (k+1))=zeN (s.data.toList.take k)*10+(s[k].toNat - 48)):=by show _=_; rw[hst,zc6]
     have hlo:zeN (s.data.toList.take k) < 1000000000∨¬ ∀ c∈s.data.toList.take k,zbo c.toNat=true:=by
      rcases ztY k (s.data.toList.take k) (by rw[ym]; omega) with h | h
      ·left
       have:10 ^ k<=10 ^ 9:=Nat.pow_le_pow_right (by omega) (by omega)
       omega
      ·exact .inr h
     have hlo':zeN (s.data.toList.take k) < 1000000000:=hlo.elim id fun h=>absurd (fun c hc=>by
      obtain⟨j,hj,rfl⟩:=List.getElem_of_mem hc
      rw[ym] at hj
      rw[List.getElem_take]
      exact uh HALL j (by omega) (by omega)) h
     cases hd:zbo s[k].toNat with
     | false=>
      have HV:=zab (uh HBAD k hlt hd)
      rw[hd] at HDk
      clear hd HST hst hlo hlo' HALL HBAD HGOOD HD
      go_wp2_with fail
      refine (uh HDk).mono ?_
      rintro e w2 ⟨rfl,rfl⟩
      clear HDk
      go_wp2
      go_ret2
      exact⟨by rw[uh HV]; rfl,rfl⟩
     | true=>
      have hb:=zaH.1 hd
      have HA2:Hid (∀ j (hj:j < s.size),j < k+1->zbo s[j].toNat=true):=fun j hj hjk=>by
       by_cases e:j=k
       ·subst e; exact hd
       ·exact uh HALL j hj (by omega)
      rw[hd] at HDk
      have hb1:(48:Int)<=(s[k].toNat:Int):=by omega
      have hb2:(s[k].toNat:Int)<=57:=by omega
      generalize zeN (s.data.toList.take k)=D at *
      clear hd hst hlo HALL HBAD HGOOD HD
      go_wp2_with fail
      refine (uh HDk).mono ?_
      rintro e w2 ⟨rfl,rfl⟩
      clear HDk
      go_wp2
      go_roundw
      case rel=>exact⟨k+1,by omega,by go_num,by rw[uh HST]; go_num,uh HA2,trivial⟩
      case measure=>simp[intOf]; omega
    ·have e:s.data.toList.take k=s.data.toList:=yq (by omega)
     rw[e]
     have HV:=zab (uh HGOOD (fun j hj=>uh HALL j hj (by omega)))
     generalize zeN s.data.toList=D at *
     clear HALL HBAD HGOOD HD e
     go_wp2
     go_ret2
     exact⟨by rw[uh HV]; rfl,rfl⟩
theorem zsl (most:Nat) (t:List UInt8) : ∃ (z:Int) (b:Bool),zpM most t = .tuple #[.int .i64 z,.bool b]:=by
 unfold zpM; split
 ·exact⟨_,_,rfl⟩
 ·exact⟨_,_,rfl⟩
def zt1 (w:World) : Prop:=Lib.Utf8Tabs 2 3 w
theorem zt1.below {w w':World} (h:zt1 w) (hb:Below w.heap.size w w') : zt1 w':=by
 refine⟨fun c hc=>?_,fun i hi=>?_⟩
 ·have:=h.1 c hc
  exact (hb.cell (yJ _ _ this)).trans this
 ·have h2:=h.2 i hi
  exact⟨(hb.cell (yJ _ _ h2.1)).trans h2.1,(hb.cell (yJ _ _ h2.2)).trans h2.2⟩
def zb2 (B:Nat) (w:World) : Prop:=∃ w0:World,w0.heap.size<=B/\zt1 w0/\Below w0.heap.size w0 w
theorem zb2.of {w:World} (h:zt1 w) : zb2 w.heap.size w:=⟨w,ye _,h,yH _ _⟩
theorem zb2.tabs {B:Nat} {w:World} (h:zb2 B w) : zt1 w:=by
 obtain⟨w0,_,t,b⟩:=h
 exact t.below b
theorem zb2.next {B B':Nat} {w w':World} (h:zb2 B w) (hb:Below B' w w') (hB:B<=B') : zb2 B w':=by
 obtain⟨w0,h0,t,b⟩:=h
 exact⟨w0,h0,t,b.trans (hb.mono (by omega))⟩
theorem zjd {w:World} {B e:Nat} {v:Value} {n:Nat} {xs:List Value} (h:w.ownsRow B e 1 v n xs) : ∀ k,v.ownBlock=some k->∃ cs fz,w.heap[k]?=some (.cells cs e fz):=by
 intro k hk
 rcases h.2 with ⟨rfl,_⟩ | ⟨g,cap,cur,rfl,_,hg,_⟩
 ·simp[Value.ownBlock] at hk
 ·simp only[Value.ownBlock,Option.some.injEq] at hk
  subst hk; exact⟨_,_,hg⟩
theorem zl3 (B b:Nat) (bs:List Value) (w:World) (h:Lib.IsBuilder 192 5 B b bs w) :
  Calls Tryz.prog 214 #[.pointer (some ⟨b,0,none⟩)] w fun e w'=>e = .returned (.tuple #[])/\(Lib.BuilderAt 192 5 B b (.pointer (some ⟨b,0,none⟩)) bs w'/\Below B w w'/\Lib.OthersKept 5 (some b) w w'):=by
 rcases h with h | h
 ·refine (zgV b w h.cell0 h.shape h.frozen0).mono ?_
  rintro e w' ⟨rfl,rfl⟩
  exact⟨rfl,h.used _,(yH B w).setCell (p:=⟨b,0,none⟩) h.1 _,(Lib.OthersKept.refl _ _ w).setCell ⟨b,0,none⟩ rfl _⟩
 ·refine (ziC b w h.cell0).mono ?_
  rintro e w' ⟨rfl,rfl⟩
  exact⟨rfl,h,yH B _,Lib.OthersKept.refl _ _ _⟩
theorem zb8 (B b:Nat) (bs:List Value) (c:Int) (w:World) (h:Lib.IsBuilder 192 5 B b bs w) (hlen:bs.length+1<=140737488355328) (hBw:B<=w.heap.size) :
  Calls Tryz.prog 180 #[.pointer (some ⟨b,0,none⟩),.int .u8 c] w fun e w'=>e = .returned .nilIface/\(Lib.BuilderAt 192 5 B b (.pointer (some ⟨b,0,none⟩)) (bs++[.int .u8 c]) w'/\Below B w w'/\Lib.OthersKept 5 (some b) w w'):=by
 obtain⟨i0,hi,hz0,hz1,hz2⟩:=info_parts infoByte
 go_enter Tryz.func180,Tryz.ntmps180
 go_wp2_with (go_at_call 214; refine (zl3 B b bs _ h).mono ?_)
 rintro e w1 ⟨rfl,h1,hb1,hk1⟩
 obtain⟨hB,v,hbk,hown,hne⟩:=h1
 have c0:w1.cell? ⟨b,0,none⟩=some (.pointer (some ⟨b,0,none⟩)):=by rw[yF hbk]; rfl
 have c1:w1.cell? ⟨b,1,none⟩=some v:=by rw[yF hbk]; rfl
 go_wp2_with (at_builtin; refine wpList_append_own _ rfl _ _ 160 rfl B 5 i0 (.int .u8 0) 1 1 Tryz.underlying160 hi hz0 hz1 hz2 rfl (by decide) _ _ _ rfl (hown.alloc _) ⟨w1.heap.size,0,none⟩ 1 1 [.int .u8 c] rfl rfl ?c1 ?c2 ?c3 ?c4 ?c5 ?_)
 case c1=>
  intro j u hj
  match j,hj with
  | 0,hj=>simp at hj; subst hj; simp[Addr.add]
 case c2=>intro u hu; simp at hu; subst hu; rfl
 case c3=>unfold maxLen; omega
 case c4=>omega
 case c5=>have:=hb1.size; simp; omega
 intro v' w2 hown' hgrow _
 have hlt:b < w1.heap.size:=by
  rcases Nat.lt_or_ge b w1.heap.size with h' | h'
  ·exact h'
  ·simp[Array.getElem?_eq_none h'] at hbk
 have hb2:w2.heap[b]?=some (.cells #[.pointer (some ⟨b,0,none⟩),v] 192 (0,0)):=by
  rw[hgrow.block b (by simp; omega) (fun e=>hne e.symm),Lib.alloc_old w1 _ b hlt]
  exact hbk
 have d0:w2.cell? ⟨b,0,none⟩=some (.pointer (some ⟨b,0,none⟩)):=by rw[yF hb2]; rfl
 have d1:w2.cell? ⟨b,1,none⟩=some v:=by rw[yF hb2]; rfl
 have f1:w2.frozen? ⟨b,1,none⟩=false:=yI hb2 1
 obtain⟨g,cap,rfl⟩ : ∃ g cap,v' = .slice (some ⟨g,0,none⟩) (bs.length+1) cap:=by
  rcases hown'.2 with ⟨_,h0⟩ | ⟨g,cap,cur,hv,_⟩
  ·omega
  ·exact⟨g,cap,hv⟩
 go_wp2
 go_ret
 refine⟨rfl,?_,?_,((hk1.alloc _).grown hgrow (zjd (hown.alloc _))).setCell ⟨b,1,none⟩ rfl _⟩
 ·exact Lib.BuilderAt.put (T:=192) (e:=5) hB hb2 (bs':=bs++[.int .u8 c]) (by simpa using hown') (by decide)
 ·exact ((hb1.alloc (by have:=hb1.size; omega) _).grown hgrow (by have:=hb1.size; simp; omega) (fun k hk=>(hown.lt k hk).1)).setCell (p:=⟨b,1,none⟩) hB _
theorem zaE (B b:Nat) (bs:List Value) (s:ByteArray) (w:World) (h:Lib.IsBuilder 192 5 B b bs w) (hlen:bs.length+s.size<=140737488355328) (hBw:B<=w.heap.size) :
  Calls Tryz.prog 252 #[.pointer (some ⟨b,0,none⟩),.string s] w fun e w'=>e = .returned (.tuple #[.int .i64 s.size,.nilIface])/\(Lib.BuilderAt 192 5 B b (.pointer (some ⟨b,0,none⟩)) (bs++Lib.strCells s) w'/\Below B w w'/\Lib.OthersKept 5 (some b) w w'):=by
 obtain⟨i0,hi,hz0,hz1,hz2⟩:=info_parts infoByte
 go_enter Tryz.func252,Tryz.ntmps252
 go_wp2_with (go_at_call 214; refine (zl3 B b bs _ h).mono ?_)
 rintro e w1 ⟨rfl,h1,hb1,hk1⟩
 obtain⟨hB,v,hbk,hown,hne⟩:=h1
 have c0:w1.cell? ⟨b,0,none⟩=some (.pointer (some ⟨b,0,none⟩)):=by rw[yF hbk]; rfl
 have c1:w1.cell? ⟨b,1,none⟩=some v:=by rw[yF hbk]; rfl
 go_wp2_with (at_builtin; refine Lib.wpList_append_own_string _ rfl _ _ 160 9 rfl B 5 i0 Tryz.underlying160 Tryz.underlying9 hi hz0 hz1 hz2 _ _ _ rfl hown s rfl ?c3 ?c4 ?c5 ?_)
 case c3=>unfold maxLen; omega
 case c4=>omega
 case c5=>have:=hb1.size; omega
 intro v' w2 hown' hgrow _
 have hlt:b < w1.heap.size:=by
  rcases Nat.lt_or_ge b w1.heap.size with h' | h'
  ·exact h'
  ·simp[Array.getElem?_eq_none h'] at hbk
 have hb2:w2.heap[b]?=some (.cells #[.pointer (some ⟨b,0,none⟩),v] 192 (0,0)):=by
  rw[hgrow.block b hlt (fun e=>hne e.symm)]
  exact hbk
 have d0:w2.cell? ⟨b,0,none⟩=some (.pointer (some ⟨b,0,none⟩)):=by rw[yF hb2]; rfl
 have d1:w2.cell? ⟨b,1,none⟩=some v:=by rw[yF hb2]; rfl
 have f1:w2.frozen? ⟨b,1,none⟩=false:=yI hb2 1
 obtain⟨ao,n',cap,rfl⟩ : ∃ ao n' cap,v' = .slice ao n' cap:=by
  rcases hown'.2 with ⟨hv,_⟩ | ⟨g,cap,cur,hv,_⟩
  ·exact⟨_,_,_,hv⟩
  ·exact⟨_,_,_,hv⟩
 go_wp2
 go_ret2
 refine⟨rfl,?_,?_,(hk1.grown hgrow (zjd hown)).setCell ⟨b,1,none⟩ rfl _⟩
 ·exact Lib.BuilderAt.put (T:=192) (e:=5) hB hb2 (bs':=bs++Lib.strCells s) (by simpa [Lib.strCells_length] using hown') (by decide)
 ·exact (hb1.grown hgrow (by have:=hb1.size; omega) (fun k hk=>(hown.lt k hk).1)).setCell (p:=⟨b,1,none⟩) hB _
theorem zje {P:Program} (w:World) {base:Nat} {t ty e:TypeId} {i:TypeInfo} {z:Value} (ht:P.underlying t=some (.slice e)) (hi:P.info? e=some i) (hz:i.zero=some z)
  {v:Value} {n:Nat} {xs:List Value} (hown:w.ownsRow base e i.size v n xs) {a:Addr} {m c:Nat} {news:List Value} (hl:news.length=m*i.size) (hnews:∀ j u,news[j]?=some u->w.cell? (a.add j)=some u) (h1:∀ u∈news,u.oneCell'=true)
  (h0:0 < m) (h63:n+m<=maxLen) (hbytes:(n+m)*i.bytes<=140737488355328) {v':Value} {w':World} (hr:(Builtin.append_ #[t,t] ty #[v,.slice (some a) m c]).run P w = .ok v' w') :
  v'.ownBlock=v.ownBlock∨v'.ownBlock=some w.heap.size:=by
 unfold maxLen at h63
 rcases hown.2 with ⟨hv,hn⟩ | ⟨g,cap,cur,hv,_,hg,_,_,hcs,_⟩
 ·subst hv; subst hn
  have hx:=run_append_nil (P:=P) w t ty e i z ht hi hz a m c news hl hnews h0 (by omega) (by simp only[Nat.zero_add] at hbytes; omega)
  rw[hx] at hr
  injection hr with hr1 _
  subst hr1
  exact .inr rfl
 ·subst hv
  by_cases hroom:n+m<=cap
  ·have hx:=run_append_room (P:=P) w t ty e i ht hi g n cap cur hg a m c news hl hnews h1 hroom (by rw[hl,hcs,← Nat.add_mul]; exact Nat.mul_le_mul_right _ hroom)
   rw[hx] at hr
   injection hr with hr1 _
   subst hr1
   exact .inl rfl
  ·have hx:=run_append_grow (P:=P) w t ty e i z ht hi hz ⟨g,0,none⟩ n cap xs hown.1 (hown.cells (g:=g) rfl) a m c news hl hnews (by omega) (by omega) (growslice_fits (by omega) hbytes)
   rw[hx] at hr
   injection hr with hr1 _
   subst hr1
   exact .inr rfl
theorem zfS {e t:TypeId} (ht:Tryz.prog.underlying t=some (.slice e)) {z:Value} {bytes:Nat}
  (hinfo:(Tryz.prog.info? e).map (fun i=>(i.zero,i.size,i.bytes))=some (some z,1,bytes)) (hzs:z.cells.size=1) (hby:bytes<=100)
  {w:World} {ops:Array Oper} {rest:List Oper} {o:Oper} {a:Act} {Q:Exit->Act->World->Prop} (hg:o.guard=none) (s x:Operand)
  (ho:o.op = .call { callee:=.builtin .append,args:=#[s,x],argTypes:=#[t,t] }) {B:Nat} {v:Value} {xs:List Value} {n:Nat} (hs:a.eval s=v)
  (hown:w.ownsRow B e 1 v n xs) {y:Value} (hy:y.oneCell'=true) {g:Nat} (hx:a.eval x = .slice (some ⟨g,0,none⟩) 1 1)
  (hcell:w.cell? ⟨g,0,none⟩=some y) (hB:B<=w.heap.size) (hl:n<=40000000)
  (hK:∀ v' w',w'.ownsRow B e 1 v' (n+1) (xs++[y])->w.grownBy w' v.ownBlock->(v'.ownBlock=v.ownBlock∨v'.ownBlock=some w.heap.size)->wpList Tryz.prog ops Q rest (a.put o.dst v') w') :
  wpList Tryz.prog ops Q (o :: rest) a w:=by
 obtain⟨i0,hi,hz0,hz1,hz2⟩:=info_parts hinfo
 have hby2:(n+1)*bytes<=(n+1)*100:=Nat.mul_le_mul_left _ hby
 have hc:∀ (j:Nat) (u:Value),[y][j]?=some u->w.cell? ((⟨g,0,none⟩ : Addr).add j)=some u:=fun j u hu=>by
  cases j with
  | zero=>simp at hu; subst hu; simpa [Addr.add] using hcell
  | succ j=>simp at hu
 have h1:∀ u∈[y],u.oneCell'=true:=fun u hu=>by simp at hu; subst hu; exact hy
 obtain⟨v',w',hr,h2,h3,_⟩:=run_append_own (P:=Tryz.prog) w B t o.type e i0 z 1 bytes ht hi hz0 hz1 hz2 hzs (by decide) v n xs hown ⟨g,0,none⟩ 1 1 [y] rfl hc h1 (by unfold maxLen; omega) (by omega) hB
 have h4:=zje (P:=Tryz.prog) w (z:=z) ht hi hz0 (by rw[hz1]; exact hown) (by rw[hz1]; rfl) hc h1 (by omega) (by unfold maxLen; omega) (by rw[hz2]; omega) hr
 exact Lib.wpList_append_run w hg s x t t ho v _ hs hx v' w' hr (hK v' w' h2 h3 h4)
end Go.Proofs.YtekpghcckdjnhaaGreatDoor
