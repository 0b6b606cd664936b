import Derived.Test.YtocnekbedcnmgaaGreatDoorBa1
import Derived.Test.YtocnekbedcnmgaaGreatDoorBa10
import Derived.Lib.OthersKept
import Derived.Lib.RuneBytes
import Derived.Laws.BitsLemmas
import Derived.Lib.RuneCount
set_option maxRecDepth 100000
set_option maxHeartbeats 8000000
namespace Go.Proofs.YtocnekbedcnmgaaGreatDoor
open Go.RowKit Go.Shelf
def ML (w:World) : Prop:=∃ m,w.cell? ⟨Tryz.laysM146_ren.g 1,0,none⟩=some (.int .i64 m)
theorem ML.of {w:World} (h:w.ShapedOpen Tryz.prog) : ML w:=Tryz.laysM146.s1_3 w h
theorem ML.below {w w':World} (h:ML w) (hb:Below w.heap.size w w') : ML w':=by
 obtain⟨m,hm⟩:=h
 exact⟨m,(hb.cell (World.block_lt_of_cell? _ _ hm)).trans hm⟩
def cuts (s:ByteArray) : List ByteArray:=Lib.splitB ⟨#[47]⟩ 0 (Lib.countB s ⟨#[47]⟩) s
theorem cuts_data (s:ByteArray) : (cuts s).map (·.data.toList)=pieces s.data.toList:=splitB_pieces s
theorem cuts_len (s:ByteArray) : (cuts s).length=Lib.countB s ⟨#[47]⟩+1:=Lib.splitB_all ⟨#[47]⟩ (by decide) 0 _ s rfl
theorem cuts_le (s:ByteArray) : (cuts s).length≤s.size+1:=by rw[cuts_len]; have:=Lib.countB_le ⟨#[47]⟩ (by decide) _ s (Nat.le_refl _); omega
theorem split_walk (s:ByteArray) (w:World) (h:ML w) (hs:s.size≤1048576) :
  Calls Tryz.prog 153 #[.string s,.string ⟨#[47]⟩] w fun e w'=>e = .returned (.slice (some ⟨w.heap.size,0,none⟩) (cuts s).length (cuts s).length)∧SS w' (some ⟨w.heap.size,0,none⟩) w.heap.size 0 (cuts s)∧Below w.heap.size w w'∧w.heap.size < w'.heap.size:=by
 obtain⟨m,hm⟩:=h
 refine Calls.mono (Any.strings_Split { Tryz.laysM146 with } Tryz.laysM146.i9 s ⟨#[47]⟩ m w (by omega) hm (by decide)) ?_
 rintro e w' ⟨rfl,rfl⟩
 refine⟨?_,⟨fun _=>rfl,fun j hj=>?_⟩,(Below.refl _ _).alloc (Nat.le_refl _) _,by simp⟩
 ·rw[cuts_len]
 ·have hg:=heap_alloc_new w (.cells ((cuts s).map Value.string).toArray 9)
  show (w.alloc (.cells ((cuts s).map Value.string).toArray 9)).cell? _=_
  rw[Lib.cell_of_heap hg]
  simp[hj]
end Go.Proofs.YtocnekbedcnmgaaGreatDoor
namespace Go.Proofs.YtocnekbedcnmgaaGreatDoor
open Go.RowKit
theorem pieces_head_ne {c:UInt8} {r:List UInt8} (h:¬ c.toNat=47) : ∃ p ps,pieces (c :: r)=(c :: p) :: ps:=by
 cases hp:pieces r with
 | nil=>exact absurd hp (pieces_ne r)
 | cons p ps=>exact⟨p,ps,pieces_go h hp⟩
theorem pieces_size:∀ (l p:List UInt8),p∈pieces l→p.length≤l.length
 | [],p,h=>by simp[pieces] at h; subst h; simp
 | c :: r,p,h=>by
  have ih:=pieces_size r
  by_cases hc:c.toNat=47
  ·rw[pieces_cut r hc] at h
   rcases List.mem_cons.1 h with rfl | h
   ·simp
   ·have:=ih p h; simp; omega
  ·cases hp:pieces r with
   | nil=>exact absurd hp (pieces_ne r)
   | cons q qs=>
    rw[pieces_go hc hp] at h
    rcases List.mem_cons.1 h with rfl | h
    ·have:=ih q (by rw[hp]; exact List.mem_cons_self); simp; omega
    ·have:=ih p (by rw[hp]; exact List.mem_cons_of_mem _ h); simp; omega
def MpAt (qs:List (List UInt8)) (k:Nat) (done:List (List UInt8)) : Prop:=qs.mapM unesc=((qs.drop k).mapM unesc).map (done++·)
theorem MpAt.start (qs:List (List UInt8)) : MpAt qs 0 []:=by simp[MpAt]
theorem mapM_cons' (p:List UInt8) (ps:List (List UInt8)) : (p :: ps).mapM unesc=(unesc p).bind fun t=>(ps.mapM unesc).map (t :: ·):=by
 rw[List.mapM_cons]
 cases unesc p with
 | none=>rfl
 | some t=>cases List.mapM unesc ps <;> rfl
theorem MpAt.step {qs done:List (List UInt8)} {k:Nat} {t:List UInt8} (h:MpAt qs k done) (hk:k < qs.length) (hu:unesc qs[k]=some t) : MpAt qs (k+1) (done++[t]):=by
 unfold MpAt at *
 rw[h,List.drop_eq_getElem_cons hk,mapM_cons',hu]
 show Option.map (done++·) (Option.map (t :: ·) _)=_
 rw[Option.map_map]; congr 1; funext x; simp
theorem MpAt.bad {qs done:List (List UInt8)} {k:Nat} (h:MpAt qs k done) (hk:k < qs.length) (hu:unesc qs[k]=none) : qs.mapM unesc=none:=by
 unfold MpAt at h
 rw[h,List.drop_eq_getElem_cons hk,mapM_cons',hu]; rfl
theorem MpAt.fin {qs done:List (List UInt8)} {k:Nat} (h:MpAt qs k done) (hk:qs.length≤k) : qs.mapM unesc=some done:=by
 unfold MpAt at h
 rw[h,List.drop_eq_nil_of_le hk]; simp
theorem implToks_walk (s:ByteArray) (w:World) (hML:ML w) (hs:s.size≤1048576) :
  Calls Tryz.prog 117 #[.string s] w fun e w'=>∃ v,e = .returned (.tuple #[v,.bool (ptoks s.data.toList).isSome])∧OT w' w.heap.size v ((ptoks s.data.toList).getD [])∧Below w.heap.size w w':=by
 obtain⟨i0,hi,hz0,hz1,hz2⟩:=info_parts infoString
 by_cases h0:s.size=0
 ·have hse:s=⟨#[]⟩:=by
   have:s.data.toList=[]:=List.eq_nil_of_length_eq_zero (by rw[data_len]; exact h0)
   obtain⟨⟨l⟩⟩:=s; simp at this; subst this; rfl
  subst hse
  clear h0
  go_enter Tryz.func117,Tryz.ntmps117
  go_wp2
  go_ret2
  exact⟨_,rfl,World.ownsRow_nil _ _ _ _,Below.refl _ _⟩
 ·have hne:s.toList.isEmpty=false:=by
   rw[Lib.toList_data,List.isEmpty_eq_false_iff]; intro e; exact h0 (by rw[← data_len,e]; rfl)
  have h0':0 < s.size:=by omega
  have hdl:=data_len s
  have C:=hide (split_walk s w hML hs)
  have hcd:=cuts_data s
  have hcl:=cuts_le s
  have hll:s.data.toList=s[0] :: s.data.toList.drop 1:=by have:=drop_at s 0 h0'; simpa using this
  obtain⟨p0,ps,hps⟩ : ∃ p0 ps,cuts s=p0 :: ps:=by
   cases h:cuts s with
   | nil=>have:=cuts_len s; rw[h] at this; simp at this
   | cons p0 ps=>exact⟨p0,ps,rfl⟩
  rw[hps] at hcd hcl
  rw[hps] at C
  by_cases h47:s[0].toNat=47
  ·rw[hll,pieces_cut _ h47] at hcd
   simp only[List.map_cons,List.cons.injEq] at hcd
   have hp0:p0=⟨#[]⟩:=by obtain⟨⟨l⟩⟩:=p0; have:=hcd.1; simp at this; subst this; rfl
   have HQ:=hide hcd.2
   have HP:Hid (ptoks s.data.toList=toks (s.data.toList.drop 1)):=ptoks_cons (by omega) h47
   clear hcd hll h47 hdl
   subst hp0
   go_enter Tryz.func117,Tryz.ntmps117
   go_wp2_with fail
   refine (uh C).mono ?_
   rintro e w1 ⟨rfl,s1,b1,z1⟩
   have c0:=s1.cell 0 (by simp)
   simp only[Nat.add_zero,List.getD_cons_zero] at c0
   have hpl:ps.length≤1048576:=by simp at hcl; omega
   have hpe:¬ ps=[]:=by intro e; have h:=uh HQ; rw[e] at h; exact pieces_ne _ h.symm
   have hpp:0 < ps.length:=by cases ps with
    | nil=>exact absurd rfl hpe
    | cons _ _=>simp
   have HS1:=hide s1
   have hw1:=b1.size
   clear s1 hcl C hps hne
   go_wp2_with (at_make; refine wpList_make_own _ rfl _ _ 43 rfl w1.heap.size 9 i0 (.string ByteArray.empty) 1 Tryz.underlying43 hi hz0 hz1 .i64 .i64 _ ps.length rfl rfl rfl (by rw[hz2]; omega) (by unfold maxLen; omega) (Nat.le_refl _) ?_)
   intro w2 hown2 hgrow2
   have HB2:Hid (Below w1.heap.size w1 w2):=(Below.refl _ _).grown hgrow2 (Nat.le_refl _) (by intro k hk; cases hk)
   have HO2:=hide hown2
   clear hown2 hgrow2
   go_wp2
   go_loopw [5,25] (fun v i wr=>∃ (k:Nat) (done:List (List UInt8)),k≤ps.length∧i = .int .i64 k∧done.length≤k∧OT wr w1.heap.size v done∧Below w1.heap.size w1 wr∧MpAt (ps.map (·.data.toList)) k done) (fun _ i _=>ps.length - (intOf i).toNat)
   case atStart=>exact⟨0,[],Nat.zero_le _,rfl,Nat.le_refl _,uh HO2,uh HB2,MpAt.start _⟩
   case round=>
    obtain⟨k,done,hk,rfl,hdn,hown,hb,hmp⟩:=hrel
    have HM:=hide hmp
    have hwsz:=hb.size
    clear hmp HO2 HB2 c0
    by_cases hlt:k < ps.length
    ·have hc1:=(uh HS1).cell (k+1) (by simp; omega)
     have hc:wr.cell? ⟨w.heap.size,1+k,none⟩=some (.string (ps.getD k ByteArray.empty)):=by
      have h1:w1.cell? ⟨w.heap.size,1+k,none⟩=some (.string (ps.getD k ByteArray.empty)):=by
       rw[show 1+k=0+(k+1) from by omega,hc1]; simp
      exact (hb.cell (p:=⟨w.heap.size,1+k,none⟩) z1).trans h1
     have hsz:(ps.getD k ByteArray.empty).size≤1048576:=by
      have hm:(ps.getD k ByteArray.empty).data.toList∈ps.map (·.data.toList):=List.mem_map.2 ⟨_,by simp[hlt],rfl⟩
      rw[uh HQ] at hm
      have:=pieces_size _ _ hm
      rw[data_len,List.length_drop,data_len] at this; omega
     have hqk:(ps.map (·.data.toList))[k]'(by simpa using hlt)=(ps.getD k ByteArray.empty).data.toList:=by simp[hlt]
     have HC:=hide (implTok_walk (ps.getD k ByteArray.empty) wr hsz)
     clear hc1 hsz
     generalize ps.getD k ByteArray.empty=p at *
     cases ho:unesc p.data.toList with
     | none=>
      have HF:=hide ((uh HM).bad (by simpa using hlt) (by rw[hqk]; exact ho))
      rw[ho,tokRes_none] at HC
      clear hqk ho
      go_wp2_with fail
      refine (uh HC).mono ?_
      rintro e w3 ⟨rfl,b3⟩
      have B3:=below_next hb b3
      clear hown HC
      go_wp2
      go_ret2
      have HR:ptoks s.data.toList=none:=by rw[uh HP]; unfold toks; rw[← uh HQ]; exact uh HF
      exact⟨_,by rw[HR]; rfl,by rw[HR]; exact World.ownsRow_nil _ _ _ _,b1.trans (B3.mono hw1)⟩
     | some t=>
      have HF:=hide ((uh HM).step (by simpa using hlt) (by rw[hqk]; exact ho))
      rw[ho,tokRes_some] at HC
      clear hqk ho
      go_wp2_with fail
      refine (uh HC).mono ?_
      rintro e w3 ⟨rfl,b3⟩
      have B3:=below_next hb b3
      have own3:=own_below hown b3
      have hw3:=B3.size
      clear hown HC b3
      go_wp2_with (at_builtin; refine wpList_append_own _ rfl (.tmp 36) (.tmp 38) 43 rfl w1.heap.size 9 i0 (.string ByteArray.empty) 1 16 Tryz.underlying43 hi hz0 hz1 hz2 rfl (by decide) _ _ _ rfl (own3.alloc _) ⟨w3.heap.size,0,none⟩ 1 1 [.string (baT t)] rfl rfl (lit1 _ _ _) (one_tok _) (by unfold maxLen; omega) (by omega) (by simp; omega) ?_)
      intro v4 w4 hown4 hgrow4 _
      have B4:Below w1.heap.size w1 w4:=(B3.alloc hw3 _).grown hgrow4 (by simp; omega) (fun k hk=>(own3.lt k hk).1)
      have own4:=OT.step (t:=t) hown4
      clear hown4 hgrow4 own3
      go_wp2
      go_roundw
      case rel=>exact⟨k+1,done++[t],by omega,by go_num,by simp; omega,own4,B4,uh HF⟩
      case measure=>simp[intOf]; omega
    ·have HF:=hide ((uh HM).fin (by simp; omega))
     go_wp2
     go_ret2
     have HR:ptoks s.data.toList=some done:=by rw[uh HP]; unfold toks; rw[← uh HQ]; exact uh HF
     exact⟨_,by rw[HR]; rfl,by rw[HR]; exact own_mono hown hw1,b1.trans (hb.mono hw1)⟩
  ·obtain⟨q,qs,hq⟩:=pieces_head_ne (r:=s.data.toList.drop 1) h47
   rw[hll,hq] at hcd
   simp only[List.map_cons,List.cons.injEq] at hcd
   have hp0:p0.toList.isEmpty=false:=by rw[Lib.toList_data,hcd.1]; rfl
   have HP:Hid (ptoks s.data.toList=none):=ptoks_bad (by omega) h47
   clear hcd hll h47 hdl hq
   go_enter Tryz.func117,Tryz.ntmps117
   go_wp2_with fail
   refine (uh C).mono ?_
   rintro e w1 ⟨rfl,s1,b1,z1⟩
   have c0:=s1.cell 0 (by simp)
   simp only[Nat.add_zero,List.getD_cons_zero] at c0
   clear s1 C hps hcl hne
   go_wp2
   go_ret2
   exact⟨_,by rw[uh HP]; rfl,by rw[uh HP]; exact World.ownsRow_nil _ _ _ _,b1⟩
theorem own_kind {w:World} {B e:Nat} {v:Value} {n:Nat} {xs:List Value} (h:w.ownsRow B e 1 v n xs) : ∀ k,v.ownBlock=some k→∃ cs fz,w.heap[k]?=some (.cells cs e fz):=by
 intro k hk
 rcases h.2 with ⟨rfl,_⟩ | ⟨g,cap,cur,rfl,_,hg,_⟩
 ·simp[Value.ownBlock] at hk
 ·simp only[Value.ownBlock,Option.some.injEq] at hk
  subst hk; exact⟨_,_,hg⟩
theorem check_k (B b:Nat) (bs:List Value) (w:World) (h:Lib.IsBuilder 167 5 B b bs w) :
  Calls Tryz.prog 214 #[.pointer (some ⟨b,0,none⟩)] w fun e w'=>e = .returned (.tuple #[])∧(Lib.BuilderAt 167 5 B b (.pointer (some ⟨b,0,none⟩)) bs w'∧Below B w w'∧Lib.OthersKept 5 (some b) w w'):=by
 rcases h with h | h
 ·refine (check_fresh b w h.cell0 h.shape h.frozen0).mono ?_
  rintro e w' ⟨rfl,rfl⟩
  exact⟨rfl,h.used _,(Below.refl B w).setCell (p:=⟨b,0,none⟩) h.1 _,(Lib.OthersKept.refl _ _ w).setCell ⟨b,0,none⟩ rfl _⟩
 ·refine (check_used b w h.cell0).mono ?_
  rintro e w' ⟨rfl,rfl⟩
  exact⟨rfl,h,Below.refl B _,Lib.OthersKept.refl _ _ _⟩
theorem writeByte_k (B b:Nat) (bs:List Value) (c:Int) (w:World) (h:Lib.IsBuilder 167 5 B b bs w) (hlen:bs.length+1≤140737488355328) (hBw:B≤w.heap.size) :
  Calls Tryz.prog 188 #[.pointer (some ⟨b,0,none⟩),.int .u8 c] w fun e w'=>e = .returned .nilIface∧(Lib.BuilderAt 167 5 B b (.pointer (some ⟨b,0,none⟩)) (bs++[.int .u8 c]) w'∧Below B w w'∧Lib.OthersKept 5 (some b) w w'):=by
 obtain⟨i0,hi,hz0,hz1,hz2⟩:=info_parts infoByte
 go_enter Tryz.func188,Tryz.ntmps188
 go_wp2_with (go_at_call 214; refine (check_k B b bs _ h).mono ?_)
 rintro e w1 ⟨rfl,h1,hb1,hk1⟩
 obtain⟨hB,v,hbk,hown,hne⟩:=h1
 have c0:w1.cell? ⟨b,0,none⟩=some (.pointer (some ⟨b,0,none⟩)):=by rw[Lib.cell_of_heap hbk]; rfl
 have c1:w1.cell? ⟨b,1,none⟩=some v:=by rw[Lib.cell_of_heap hbk]; rfl
 go_wp2_with (at_builtin; refine wpList_append_own _ rfl _ _ 37 rfl B 5 i0 (.int .u8 0) 1 1 Tryz.underlying37 hi hz0 hz1 hz2 rfl (by decide) _ _ _ rfl (hown.alloc _) ⟨w1.heap.size,0,none⟩ 1 1 [.int .u8 c] rfl rfl ?c1 ?c2 ?c3 ?c4 ?c5 ?_)
 case c1=>
  intro j u hj
  match j,hj with
  | 0,hj=>simp at hj; subst hj; simp[Addr.add]
 case c2=>intro u hu; simp at hu; subst hu; rfl
 case c3=>unfold maxLen; omega
 case c4=>omega
 case c5=>have:=hb1.size; simp; omega
 intro v' w2 hown' hgrow _
 have hlt:b < w1.heap.size:=by
  rcases Nat.lt_or_ge b w1.heap.size with h' | h'
  ·exact h'
  ·simp[Array.getElem?_eq_none h'] at hbk
 have hb2:w2.heap[b]?=some (.cells #[.pointer (some ⟨b,0,none⟩),v] 167 (0,0)):=by
  rw[hgrow.block b (by simp; omega) (fun e=>hne e.symm),Lib.alloc_old w1 _ b hlt]
  exact hbk
 have d0:w2.cell? ⟨b,0,none⟩=some (.pointer (some ⟨b,0,none⟩)):=by rw[Lib.cell_of_heap hb2]; rfl
 have d1:w2.cell? ⟨b,1,none⟩=some v:=by rw[Lib.cell_of_heap hb2]; rfl
 have f1:w2.frozen? ⟨b,1,none⟩=false:=Lib.frozen_of_heap hb2 1
 obtain⟨g,cap,rfl⟩ : ∃ g cap,v' = .slice (some ⟨g,0,none⟩) (bs.length+1) cap:=by
  rcases hown'.2 with ⟨_,h0⟩ | ⟨g,cap,cur,hv,_⟩
  ·omega
  ·exact⟨g,cap,hv⟩
 go_wp2
 go_ret
 refine⟨rfl,?_,?_,((hk1.alloc _).grown hgrow (own_kind (hown.alloc _))).setCell ⟨b,1,none⟩ rfl _⟩
 ·exact Lib.BuilderAt.put (T:=167) (e:=5) hB hb2 (bs':=bs++[.int .u8 c]) (by simpa using hown') (by decide)
 ·exact ((hb1.alloc (by have:=hb1.size; omega) _).grown hgrow (by have:=hb1.size; simp; omega) (fun k hk=>(hown.lt k hk).1)).setCell (p:=⟨b,1,none⟩) hB _
theorem writeString_k (B b:Nat) (bs:List Value) (s:ByteArray) (w:World) (h:Lib.IsBuilder 167 5 B b bs w) (hlen:bs.length+s.size≤140737488355328) (hBw:B≤w.heap.size) :
  Calls Tryz.prog 189 #[.pointer (some ⟨b,0,none⟩),.string s] w fun e w'=>e = .returned (.tuple #[.int .i64 s.size,.nilIface])∧(Lib.BuilderAt 167 5 B b (.pointer (some ⟨b,0,none⟩)) (bs++Lib.strCells s) w'∧Below B w w'∧Lib.OthersKept 5 (some b) w w'):=by
 obtain⟨i0,hi,hz0,hz1,hz2⟩:=info_parts infoByte
 go_enter Tryz.func189,Tryz.ntmps189
 go_wp2_with (go_at_call 214; refine (check_k B b bs _ h).mono ?_)
 rintro e w1 ⟨rfl,h1,hb1,hk1⟩
 obtain⟨hB,v,hbk,hown,hne⟩:=h1
 have c0:w1.cell? ⟨b,0,none⟩=some (.pointer (some ⟨b,0,none⟩)):=by rw[Lib.cell_of_heap hbk]; rfl
 have c1:w1.cell? ⟨b,1,none⟩=some v:=by rw[Lib.cell_of_heap hbk]; rfl
 go_wp2_with (at_builtin; refine Lib.wpList_append_own_string _ rfl _ _ 37 9 rfl B 5 i0 Tryz.underlying37 Tryz.underlying9 hi hz0 hz1 hz2 _ _ _ rfl hown s rfl ?c3 ?c4 ?c5 ?_)
 case c3=>unfold maxLen; omega
 case c4=>omega
 case c5=>have:=hb1.size; omega
 intro v' w2 hown' hgrow _
 have hlt:b < w1.heap.size:=by
  rcases Nat.lt_or_ge b w1.heap.size with h' | h'
  ·exact h'
  ·simp[Array.getElem?_eq_none h'] at hbk
 have hb2:w2.heap[b]?=some (.cells #[.pointer (some ⟨b,0,none⟩),v] 167 (0,0)):=by
  rw[hgrow.block b hlt (fun e=>hne e.symm)]
  exact hbk
 have d0:w2.cell? ⟨b,0,none⟩=some (.pointer (some ⟨b,0,none⟩)):=by rw[Lib.cell_of_heap hb2]; rfl
 have d1:w2.cell? ⟨b,1,none⟩=some v:=by rw[Lib.cell_of_heap hb2]; rfl
 have f1:w2.frozen? ⟨b,1,none⟩=false:=Lib.frozen_of_heap hb2 1
 obtain⟨ao,n',cap,rfl⟩ : ∃ ao n' cap,v' = .slice ao n' cap:=by
  rcases hown'.2 with ⟨hv,_⟩ | ⟨g,cap,cur,hv,_⟩
  ·exact⟨_,_,_,hv⟩
  ·exact⟨_,_,_,hv⟩
 go_wp2
 go_ret2
 refine⟨rfl,?_,?_,(hk1.grown hgrow (own_kind hown)).setCell ⟨b,1,none⟩ rfl _⟩
 ·exact Lib.BuilderAt.put (T:=167) (e:=5) hB hb2 (bs':=bs++Lib.strCells s) (by simpa [Lib.strCells_length] using hown') (by decide)
 ·exact (hb1.grown hgrow (by have:=hb1.size; omega) (fun k hk=>(hown.lt k hk).1)).setCell (p:=⟨b,1,none⟩) hB _
theorem writeRune_k (B b:Nat) (bs:List Value) (r:Int) (hr0 : -2147483648≤r) (hr1:r≤2147483647) (w:World) (h:Lib.IsBuilder 167 5 B b bs w) (hlen:bs.length+4≤140737488355328) (hBw:B≤w.heap.size) :
  Calls Tryz.prog 195 #[.pointer (some ⟨b,0,none⟩),.int .i32 r] w fun e w'=>(∃ n:Int,e = .returned (.tuple #[.int .i64 n,.nilIface]))∧(Lib.BuilderAt 167 5 B b (.pointer (some ⟨b,0,none⟩)) (bs++Lib.runeCells r) w'∧Below B w w'∧Lib.OthersKept 5 (some b) w w'):=by
 go_enter Tryz.func195,Tryz.ntmps195
 go_wp2_with (go_at_call 214; refine (check_k B b bs _ h).mono ?_)
 rintro e w1 ⟨rfl,h1,hb1,hk1⟩
 obtain⟨hB,v,hbk,hown,hne⟩:=h1
 have c0:w1.cell? ⟨b,0,none⟩=some (.pointer (some ⟨b,0,none⟩)):=by rw[Lib.cell_of_heap hbk]; rfl
 have c1:w1.cell? ⟨b,1,none⟩=some v:=by rw[Lib.cell_of_heap hbk]; rfl
 obtain⟨va,vn,vc,rfl⟩ : ∃ ao n' cap,v = .slice ao n' cap:=by
  rcases hown.2 with ⟨hv,_⟩ | ⟨g,cap,cur,hv,_⟩
  ·exact⟨_,_,_,hv⟩
  ·exact⟨_,_,_,hv⟩
 have hBw1:B≤w1.heap.size:=by have:=hb1.size; omega
 have HA:=hide (Tryz.utf8_AppendRune_plain B (.slice va vn vc) bs.length bs r hr0 hr1 w1 hown hlen hBw1)
 go_wp2_with fail
 refine (uh HA).mono ?_
 rintro e w2 ⟨v',rfl,hown',o,hgrow⟩
 have hlt:b < w1.heap.size:=by
  rcases Nat.lt_or_ge b w1.heap.size with h' | h'
  ·exact h'
  ·simp[Array.getElem?_eq_none h'] at hbk
 have hb2:w2.heap[b]?=some (.cells #[.pointer (some ⟨b,0,none⟩),.slice va vn vc] 167 (0,0)):=by
  rw[hgrow.block b (by simp; omega) (fun e=>hne e.symm),Lib.alloc_old w1 _ b hlt]
  exact hbk
 have d0:w2.cell? ⟨b,0,none⟩=some (.pointer (some ⟨b,0,none⟩)):=by rw[Lib.cell_of_heap hb2]; rfl
 have d1:w2.cell? ⟨b,1,none⟩=some (.slice va vn vc):=by rw[Lib.cell_of_heap hb2]; rfl
 have f1:w2.frozen? ⟨b,1,none⟩=false:=Lib.frozen_of_heap hb2 1
 obtain⟨ao,n',cap,rfl⟩ : ∃ ao n' cap,v' = .slice ao n' cap:=by
  rcases hown'.2 with ⟨hv,_⟩ | ⟨g,cap,cur,hv,_⟩
  ·exact⟨_,_,_,hv⟩
  ·exact⟨_,_,_,hv⟩
 have P1:Hid (Lib.BuilderAt 167 5 B b (.pointer (some ⟨b,0,none⟩)) (bs++Lib.runeCells r) (w2.setCell ⟨b,1,none⟩ (.slice ao n' cap))):=Lib.BuilderAt.put (T:=167) (e:=5) hB hb2 (bs':=bs++Lib.runeCells r) (by simpa using hown') (by decide)
 have P2:Hid (Below B w (w2.setCell ⟨b,1,none⟩ (.slice ao n' cap))):=((hb1.alloc hBw1 _).grown hgrow (by simp; omega) (fun k hk=>(hown.lt k hk).1)).setCell (p:=⟨b,1,none⟩) hB _
 have P3:Hid (Lib.OthersKept 5 (some b) w (w2.setCell ⟨b,1,none⟩ (.slice ao n' cap))):=((hk1.alloc o).grown hgrow (own_kind (hown.alloc _))).setCell ⟨b,1,none⟩ rfl _
 have e1:(w2.setCell ⟨b,1,none⟩ (.slice ao n' cap)).cell? ⟨b,1,none⟩=some (.slice ao n' cap):=by
  have:=heap_setCell_same w2 b 1 #[.pointer (some ⟨b,0,none⟩),.slice va vn vc] 167 (.slice ao n' cap) hb2
  rw[Lib.cell_of_heap this]; rfl
 clear HA hown' hgrow hown hbk hb2 hb1 hk1
 go_wp2
 go_ret2
 exact⟨⟨_,rfl⟩,uh P1,uh P2,uh P3⟩
def pc (r:Nat) : List UInt8:=if r < 128 then qB (UInt8.ofNat r) else Lib.encodeRune r
theorem pc_le (r:Nat) : (pc r).length≤6:=by
 unfold pc; split
 ·exact qB_le _
 ·have:=Lib.encodeRuneZ_length r; simp[Lib.encodeRune]; omega
theorem pc_lo {r:Nat} (h:r < 128) : pc r=qB (UInt8.ofNat r):=by unfold pc; rw[if_pos h]
theorem ofNat_n {r:Nat} (h:r < 256) : (UInt8.ofNat r).toNat=r:=by rw[UInt8.toNat_ofNat']; omega
abbrev OK5 (b:Nat) (w w':World) : Prop:=Lib.OthersKept 5 (some b) w w'
theorem and15F:∀ r:Fin 32,bits BinOp.and IntKind.i32 ((r.val:Nat) : Int) 15=((r.val % 16:Nat) : Int):=by decide +kernel
theorem and15 {r:Nat} (h:r < 32) : bits BinOp.and IntKind.i32 (r:Int) 15=((r % 16:Nat) : Int):=and15F ⟨r,h⟩
theorem piece_walk (B b:Nat) (l:List UInt8) (r:Nat) (w:World) (h:IsB B b l w) (hB:B≤w.heap.size) (hr:r≤1114111) (hl:l.length≤100000000) :
  Calls Tryz.prog 321 #[.pointer (some ⟨b,0,none⟩),.int .i32 r] w fun e w'=>e = .returned (.tuple #[])∧IsB B b (l++pc r) w'∧Below B w w'∧OK5 b w w':=by
 have hq:(Lib.byteCells l).length≤100000000:=by rw[Lib.byteCells_length]; exact hl
 by_cases h32:32≤r
 ·by_cases e:r=34
  ·have HP:Hid (pc r=[92,34]):=by
    show _=_; rw[pc_lo (by omega),q_esc (by rw[ofNat_n (by omega)]; omega)]; subst e; rfl
   have t34:((r:Int) == 34)=true:=by rw[beq_iff_eq]; omega
   clear e
   go_enter Tryz.func321,Tryz.ntmps321
   go_wp2_with fail
   refine (writeString_k B b _ _ _ h (by show _+2≤_; omega) hB).mono ?_
   rintro e w1 ⟨rfl,h1,b1,k1⟩
   have h1':=IsB.str (m:=[92,34]) rfl h1
   clear h1
   go_wp2
   go_end0
   exact⟨rfl,by rw[uh HP]; exact h1',b1,k1⟩
  ·by_cases e':r=92
   ·have e:=e'
    clear e'
    have HP:Hid (pc r=[92,92]):=by
     show _=_; rw[pc_lo (by omega),q_esc (by rw[ofNat_n (by omega)]; omega)]; subst e; rfl
    have t34:((r:Int) == 34)=false:=by rw[beq_eq_false_iff_ne]; omega
    have t92:((r:Int) == 92)=true:=by rw[beq_iff_eq]; omega
    clear e
    go_enter Tryz.func321,Tryz.ntmps321
    go_wp2_with fail
    refine (writeString_k B b _ _ _ h (by show _+2≤_; omega) hB).mono ?_
    rintro e w1 ⟨rfl,h1,b1,k1⟩
    have h1':=IsB.str (m:=[92,92]) rfl h1
    clear h1
    go_wp2
    go_end0
    exact⟨rfl,by rw[uh HP]; exact h1',b1,k1⟩
   ·have HP:Hid (Lib.runeCells r=Lib.byteCells (pc r)):=by
     show _=_
     by_cases h7:r < 128
     ·rw[pc_lo h7,q_lit (by rw[ofNat_n (by omega)]; exact e) (by rw[ofNat_n (by omega)]; exact e') (by rw[ofNat_n (by omega)]; exact h32)]
      unfold Lib.runeCells
      rw[Lib.encodeRuneZ_one (by omega) (by omega)]
      simp only[List.map_cons,List.map_nil,Lib.byteCells,ofNat_n (show r < 256 by omega)]
     ·unfold pc; rw[if_neg h7,Lib.byteCells_encodeRune]
    have t34:((r:Int) == 34)=false:=by rw[beq_eq_false_iff_ne]; omega
    have t92:((r:Int) == 92)=false:=by rw[beq_eq_false_iff_ne]; omega
    have t8:((r:Int) == 8)=false:=by rw[beq_eq_false_iff_ne]; omega
    have t9:((r:Int) == 9)=false:=by rw[beq_eq_false_iff_ne]; omega
    have t10:((r:Int) == 10)=false:=by rw[beq_eq_false_iff_ne]; omega
    have t12:((r:Int) == 12)=false:=by rw[beq_eq_false_iff_ne]; omega
    have t13:((r:Int) == 13)=false:=by rw[beq_eq_false_iff_ne]; omega
    have t32:(32:Int)≤(r:Int):=by omega
    clear e e'
    go_enter Tryz.func321,Tryz.ntmps321
    go_wp2_with fail
    refine (writeRune_k B b _ (r:Int) (by omega) (by omega) _ h (by omega) hB).mono ?_
    rintro e w1 ⟨⟨n,rfl⟩,h1,b1,k1⟩
    have h1':=IsB.cells (uh HP) h1
    clear h1
    go_wp2
    try simp only[Exit.inBlock,Exit.then]
    refine bodyPost_ret (results_none rfl _ _ _) rfl ?_
    exact⟨rfl,h1',b1,k1⟩
 ·by_cases hc:Ctl r
  ·have HP:Hid (pc r=[92,117,48,48,hexs.getD (r / 16) 0,hexs.getD (r % 16) 0]):=by
    show _=_; rw[pc_lo (by omega),q_ctl (by rw[ofNat_n (by omega)]; exact hc),ofNat_n (by omega)]
   obtain⟨g1,g2,g3,g4,g5,g6⟩:=hc
   have t34:((r:Int) == 34)=false:=by rw[beq_eq_false_iff_ne]; omega
   have t92:((r:Int) == 92)=false:=by rw[beq_eq_false_iff_ne]; omega
   have t8:((r:Int) == 8)=false:=by rw[beq_eq_false_iff_ne]; omega
   have t9:((r:Int) == 9)=false:=by rw[beq_eq_false_iff_ne]; omega
   have t10:((r:Int) == 10)=false:=by rw[beq_eq_false_iff_ne]; omega
   have t12:((r:Int) == 12)=false:=by rw[beq_eq_false_iff_ne]; omega
   have t13:((r:Int) == 13)=false:=by rw[beq_eq_false_iff_ne]; omega
   have t32:¬ (32:Int)≤(r:Int):=by omega
   obtain⟨q,hq16⟩ : ∃ q:Nat,q=r % 16:=⟨_,rfl⟩
   have hand:bits BinOp.and IntKind.i32 (r:Int) 15=(q:Int):=by rw[hq16]; exact and15 (by omega)
   have hqlt:q < 16:=by omega
   have hqlt':(q:Int) < 16:=by omega
   have hq0:(0:Int)≤(q:Int):=by omega
   rw[← hq16] at HP
   clear hq16
   go_enter Tryz.func321,Tryz.ntmps321
   go_wp2_with fail
   refine (writeString_k B b _ _ _ h (by show _+4≤_; omega) hB).mono ?_
   rintro e w1 ⟨rfl,h1,b1,k1⟩
   have h1':=IsB.str (m:=[92,117,48,48]) rfl h1
   have hw1:B≤w1.heap.size:=by have:=b1.size; omega
   clear h1
   go_wp2_with fail
   refine (writeByte_k B b _ _ _ h1' (by rw[Lib.byteCells_length]; simp; omega) hw1).mono ?_
   rintro e w2 ⟨rfl,h2,b2,k2⟩
   have h2':=IsB.byte (c:=hexs.getD (r / 16) 0) (congrArg (fun c:UInt8=>(c.toNat:Int)) (hex_at (r / 16) (by omega))) h2
   have hw2:B≤w2.heap.size:=by have:=b2.size; omega
   clear h2 h1'
   go_wp2_with fail
   refine (writeByte_k B b _ _ _ h2' (by rw[Lib.byteCells_length]; simp; omega) hw2).mono ?_
   rintro e w3 ⟨rfl,h3,b3,k3⟩
   have h3':=IsB.byte (c:=hexs.getD q 0) (congrArg (fun c:UInt8=>(c.toNat:Int)) (hex_at q hqlt)) h3
   have B3:=(b1.trans b2).trans b3
   have K3:=(k1.trans k2).trans k3
   clear h3 h2'
   go_wp2
   go_end0
   exact⟨rfl,by rw[uh HP]; simpa using h3',B3,K3⟩
  ·rcases (show r=8∨r=9∨r=10∨r=12∨r=13 from by unfold Ctl at hc; omega) with e | e | e | e | e
   ·have HP:Hid (pc r=[92,98]):=by
     show _=_; rw[pc_lo (by omega),q_8 (by rw[ofNat_n (by omega)]; omega)]
    have t34:((r:Int) == 34)=false:=by rw[beq_eq_false_iff_ne]; omega
    have t92:((r:Int) == 92)=false:=by rw[beq_eq_false_iff_ne]; omega
    have t8:((r:Int) == 8)=true:=by rw[beq_iff_eq]; omega
    clear e
    go_enter Tryz.func321,Tryz.ntmps321
    go_wp2_with fail
    refine (writeString_k B b _ _ _ h (by show _+2≤_; omega) hB).mono ?_
    rintro e w1 ⟨rfl,h1,b1,k1⟩
    have h1':=IsB.str (m:=[92,98]) rfl h1
    clear h1
    go_wp2
    go_end0
    exact⟨rfl,by rw[uh HP]; exact h1',b1,k1⟩
   ·have HP:Hid (pc r=[92,116]):=by
     show _=_; rw[pc_lo (by omega),q_9 (by rw[ofNat_n (by omega)]; omega)]
    have t34:((r:Int) == 34)=false:=by rw[beq_eq_false_iff_ne]; omega
    have t92:((r:Int) == 92)=false:=by rw[beq_eq_false_iff_ne]; omega
    have t8:((r:Int) == 8)=false:=by rw[beq_eq_false_iff_ne]; omega
    have t9:((r:Int) == 9)=true:=by rw[beq_iff_eq]; omega
    clear e
    go_enter Tryz.func321,Tryz.ntmps321
    go_wp2_with fail
    refine (writeString_k B b _ _ _ h (by show _+2≤_; omega) hB).mono ?_
    rintro e w1 ⟨rfl,h1,b1,k1⟩
    have h1':=IsB.str (m:=[92,116]) rfl h1
    clear h1
    go_wp2
    go_end0
    exact⟨rfl,by rw[uh HP]; exact h1',b1,k1⟩
   ·have HP:Hid (pc r=[92,110]):=by
     show _=_; rw[pc_lo (by omega),q_10 (by rw[ofNat_n (by omega)]; omega)]
    have t34:((r:Int) == 34)=false:=by rw[beq_eq_false_iff_ne]; omega
    have t92:((r:Int) == 92)=false:=by rw[beq_eq_false_iff_ne]; omega
    have t8:((r:Int) == 8)=false:=by rw[beq_eq_false_iff_ne]; omega
    have t9:((r:Int) == 9)=false:=by rw[beq_eq_false_iff_ne]; omega
    have t10:((r:Int) == 10)=true:=by rw[beq_iff_eq]; omega
    clear e
    go_enter Tryz.func321,Tryz.ntmps321
    go_wp2_with fail
    refine (writeString_k B b _ _ _ h (by show _+2≤_; omega) hB).mono ?_
    rintro e w1 ⟨rfl,h1,b1,k1⟩
    have h1':=IsB.str (m:=[92,110]) rfl h1
    clear h1
    go_wp2
    go_end0
    exact⟨rfl,by rw[uh HP]; exact h1',b1,k1⟩
   ·have HP:Hid (pc r=[92,102]):=by
     show _=_; rw[pc_lo (by omega),q_12 (by rw[ofNat_n (by omega)]; omega)]
    have t34:((r:Int) == 34)=false:=by rw[beq_eq_false_iff_ne]; omega
    have t92:((r:Int) == 92)=false:=by rw[beq_eq_false_iff_ne]; omega
    have t8:((r:Int) == 8)=false:=by rw[beq_eq_false_iff_ne]; omega
    have t9:((r:Int) == 9)=false:=by rw[beq_eq_false_iff_ne]; omega
    have t10:((r:Int) == 10)=false:=by rw[beq_eq_false_iff_ne]; omega
    have t12:((r:Int) == 12)=true:=by rw[beq_iff_eq]; omega
    clear e
    go_enter Tryz.func321,Tryz.ntmps321
    go_wp2_with fail
    refine (writeString_k B b _ _ _ h (by show _+2≤_; omega) hB).mono ?_
    rintro e w1 ⟨rfl,h1,b1,k1⟩
    have h1':=IsB.str (m:=[92,102]) rfl h1
    clear h1
    go_wp2
    go_end0
    exact⟨rfl,by rw[uh HP]; exact h1',b1,k1⟩
   ·have HP:Hid (pc r=[92,114]):=by
     show _=_; rw[pc_lo (by omega),q_13 (by rw[ofNat_n (by omega)]; omega)]
    have t34:((r:Int) == 34)=false:=by rw[beq_eq_false_iff_ne]; omega
    have t92:((r:Int) == 92)=false:=by rw[beq_eq_false_iff_ne]; omega
    have t8:((r:Int) == 8)=false:=by rw[beq_eq_false_iff_ne]; omega
    have t9:((r:Int) == 9)=false:=by rw[beq_eq_false_iff_ne]; omega
    have t10:((r:Int) == 10)=false:=by rw[beq_eq_false_iff_ne]; omega
    have t12:((r:Int) == 12)=false:=by rw[beq_eq_false_iff_ne]; omega
    have t13:((r:Int) == 13)=true:=by rw[beq_iff_eq]; omega
    clear e
    go_enter Tryz.func321,Tryz.ntmps321
    go_wp2_with fail
    refine (writeString_k B b _ _ _ h (by show _+2≤_; omega) hB).mono ?_
    rintro e w1 ⟨rfl,h1,b1,k1⟩
    have h1':=IsB.str (m:=[92,114]) rfl h1
    clear h1
    go_wp2
    go_end0
    exact⟨rfl,by rw[uh HP]; exact h1',b1,k1⟩
theorem bat_iter {T e:TypeId} {B b:Nat} {p:Value} {bs:List Value} {w:World} (h:Lib.BuilderAt T e B b p bs w) {k:Nat} {s:ByteArray} {pos:Nat} (hk:w.heap[k]?=some (.stringIter s pos)) (pos':Nat) : Lib.BuilderAt T e B b p bs (w.iterAt k s pos'):=by
 obtain⟨hB,v,hb,hown,hne⟩:=h
 have hkb:b≠k:=by
  intro e1
  rw[e1,hk] at hb
  cases hb
 refine⟨hB,v,(Lib.iterAt_other w k b s pos' hkb).trans hb,⟨hown.1,?_⟩,hne⟩
 rcases hown.2 with hn | ⟨g,cap,cur,hv,hbg,hg,rest⟩
 ·exact .inl hn
 ·have hkg:g≠k:=by
   intro e1
   rw[e1,hk] at hg
   cases hg
  exact .inr ⟨g,cap,cur,hv,hbg,(Lib.iterAt_other w k g s pos' hkg).trans hg,rest⟩
theorem IsB.iterAt {B b:Nat} {l:List UInt8} {w:World} (h:IsB B b l w) {k:Nat} {s:ByteArray} {pos:Nat} (hk:w.heap[k]?=some (.stringIter s pos)) (pos':Nat) : IsB B b l (w.iterAt k s pos'):=
 h.elim (fun x=>.inl (bat_iter x hk pos')) (fun x=>.inr (bat_iter x hk pos'))
theorem IsB.alloc {B b:Nat} {l:List UInt8} {w:World} (h:IsB B b l w) (o:Obj) : IsB B b l (w.alloc o):=by
 have g:∀ p,Lib.BuilderAt 167 5 B b p (Lib.byteCells l) w→Lib.BuilderAt 167 5 B b p (Lib.byteCells l) (w.alloc o):=by
  rintro p ⟨hB,v,hb,hown,hne⟩
  exact⟨hB,v,(Lib.alloc_old w o b (Array.getElem?_eq_some_iff.1 hb).1).trans hb,hown.alloc o,hne⟩
 exact h.elim (fun x=>.inl (g _ x)) (fun x=>.inr (g _ x))
theorem IsB.lt {B b:Nat} {l:List UInt8} {w:World} (h:IsB B b l w) : b < w.heap.size:=h.elim (fun x=>x.lt) (fun x=>x.lt)
def rsFrom (s:ByteArray) : Nat→Nat→List UInt8
 | 0,_=>[]
 | f+1,pos=>if pos < s.size then pc (Utf8.decode s pos).1++rsFrom s f (pos+(Utf8.decode s pos).2) else []
def rs (s:ByteArray) : List UInt8:=rsFrom s s.size 0
theorem rsFrom_end (s:ByteArray) (f pos:Nat) (h:¬ pos < s.size) : rsFrom s f pos=[]:=by
 cases f with
 | zero=>rfl
 | succ f=>simp[rsFrom,h]
theorem dec_le (s:ByteArray) (pos:Nat) : (Utf8.decode s pos).1≤1114111:=by
 rw[dec]; exact Lib.decodeN_rune_le _ _ _ _ _ (bt_lt s pos)
theorem ok5_iter {b k:Nat} {a w:World} (h:OK5 b a w) (hk:a.heap.size≤k) (s:ByteArray) (pos:Nat) : OK5 b a (w.iterAt k s pos):=fun i o hi hb ho=>by
 have hlt:i < a.heap.size:=(Array.getElem?_eq_some_iff.1 hi).1
 have hbl:=Lib.below_iterAt (Below.refl k w) (k:=k) (Nat.le_refl _) s pos
 rw[hbl.block i (by omega)]
 exact h i o hi hb ho
theorem strWrite_walk (B b:Nat) (l:List UInt8) (s:ByteArray) (w:World) (h:IsB B b l w) (hB:B≤w.heap.size) (hl:l.length≤10000000) (hs:s.size≤10000000) :
  Calls Tryz.prog 320 #[.string s,.pointer (some ⟨b,0,none⟩)] w fun e w'=>e = .returned (.tuple #[])∧IsB B b (l++34 :: (rs s++[34])) w'∧Below B w w'∧OK5 b w w':=by
 have hq:(Lib.byteCells l).length≤10000000:=by rw[Lib.byteCells_length]; exact hl
 have hbB:B≤b:=h.elim (fun x=>x.1) (fun x=>x.1)
 have hblt:=h.lt
 go_enter Tryz.func320,Tryz.ntmps320
 go_wp2_with fail
 refine (writeByte_k B b _ 34 _ h (by omega) hB).mono ?_
 rintro e w1 ⟨rfl,h1,b1,k1⟩
 have hs1:=b1.size
 have H1:Hid (IsB B b (l++[34]) (w1.alloc (.stringIter s 0))):=(IsB.byte (c:=34) rfl h1).alloc _
 have hblt1:b < w1.heap.size:=Lib.BuilderAt.lt h1
 have K1:Hid (OK5 b w (w1.alloc (.stringIter s 0))):=Lib.OthersKept.alloc k1 _
 clear h1 k1 h
 go_wp2
 go_loopw [] (fun wr=>∃ (pos fuel:Nat) (acc:List UInt8),IsB B b acc wr∧wr.heap[w1.heap.size]?=some (.stringIter s pos)∧Below B w wr∧OK5 b w wr∧acc++rsFrom s fuel pos=l++34 :: rs s∧s.size≤pos+fuel∧acc.length≤l.length+1+6*pos) (fun wr=>s.size - wr.iterPos w1.heap.size)
 case atStart=>
  refine⟨0,s.size,l++[34],uh H1,?_,b1.alloc (by omega) _,uh K1,by simp[rs],by omega,by simp⟩
  exact heap_alloc_new w1 _
 case round=>
  obtain⟨pos,fuel,acc,hI,hit,hbw,hok,hacc,hfu,hal⟩:=hrel
  have hsz:w1.heap.size < wr.heap.size:=(Array.getElem?_eq_some_iff.1 hit).1
  clear H1 K1
  have HOK:=hide hok
  clear hok
  by_cases hp:pos < s.size
  ·have hnx:∀ ty,(Instr.next (.pointer (some ⟨w1.heap.size,0,none⟩)) true ty).run Tryz.prog wr=_:=fun ty=>Lib.run_next_any_at wr w1.heap.size s pos ty hit hp
   have hwd:=Lib.decode_width_pos s pos hp
   have hd1:=dec_le s pos
   have hpc:=pc_le (Utf8.decode s pos).1
   have hI2:=hI.iterAt hit (pos+(Utf8.decode s pos).2)
   have hit2:=Lib.iterAt_heap wr w1.heap.size s pos (pos+(Utf8.decode s pos).2) hit
   have hbw2:=Lib.below_iterAt hbw (k:=w1.heap.size) (by omega) s (pos+(Utf8.decode s pos).2)
   have hsz2:B≤(wr.iterAt w1.heap.size s (pos+(Utf8.decode s pos).2)).heap.size:=by rw[Lib.iterAt_size]; omega
   obtain⟨f,rfl⟩ : ∃ f,fuel=f+1:=⟨fuel - 1,by omega⟩
   have HA:Hid ((acc++pc (Utf8.decode s pos).1)++rsFrom s f (pos+(Utf8.decode s pos).2)=l++34 :: rs s):=by
    show _=_; rw[← hacc]; simp[rsFrom,hp]
   have HC:=hide (piece_walk B b acc (Utf8.decode s pos).1 (wr.iterAt w1.heap.size s (pos+(Utf8.decode s pos).2)) hI2 hsz2 hd1 (by omega))
   have HIT2:=hide hit2
   have HIT:=hide hit
   have HBW2:=hide hbw2
   clear hacc hI hI2 hit2 hbw2 hsz2
   go_wp2_with fail
   refine (uh HC).mono ?_
   rintro e W1 ⟨rfl,h1,b2,k2⟩
   go_wp2
   go_roundw
   case rel=>exact⟨pos+(Utf8.decode s pos).2,f,acc++pc (Utf8.decode s pos).1,h1,k2.iter (uh HIT2) (by omega),(uh HBW2).trans b2,(ok5_iter (uh HOK) (by omega) _ _).trans k2,uh HA,by omega,by rw[List.length_append]; omega⟩
   case measure=>
    simp only[World.iterPos,k2.iter (uh HIT2) (by omega),uh HIT]
    omega
  ·have hnx:∀ ty,(Instr.next (.pointer (some ⟨w1.heap.size,0,none⟩)) true ty).run Tryz.prog wr=_:=fun ty=>Lib.run_next_end_at wr w1.heap.size s pos ty hit hp
   rw[rsFrom_end s fuel pos hp,List.append_nil] at hacc
   have HA:=hide hacc
   have hal2:(Lib.byteCells acc).length≤100000000:=by
    rw[Lib.byteCells_length,hacc]
    have hf:∀ f pos,(rsFrom s f pos).length≤6*f:=by
     intro f
     induction f with
     | zero=>intro pos; simp[rsFrom]
     | succ f ih=>
      intro pos
      rw[rsFrom]; split
      ·rw[List.length_append]; have:=ih (pos+(Utf8.decode s pos).2); have:=pc_le (Utf8.decode s pos).1; omega
      ·simp
    have:=hf s.size 0
    simp[rs]; omega
   clear hacc
   go_wp2_with fail
   refine (writeByte_k B b _ 34 _ hI (by omega) (by omega)).mono ?_
   rintro e W1 ⟨rfl,h1,b2,k2⟩
   have h1':=IsB.byte (c:=34) rfl h1
   go_wp2
   go_end0
   refine⟨rfl,?_,hbw.trans b2,(uh HOK).trans k2⟩
   rw[uh HA] at h1'
   simpa using h1'
end Go.Proofs.YtocnekbedcnmgaaGreatDoor
