import Derived.WalkKit
import Derived.Test.YtocnekbedcnmgaaGreatDoorRows
import Derived.Lib.UnsafeStr
import Derived.Lib.SplitLaws
import Derived.Lib.TrimUEq
import Derived.Lib.ValidU
import Derived.Lib.RuneBytes
import Derived.Lib.DecodeN
import Derived.Laws.IdiomStrings
import Derived.Laws.BytesArg
import Derived.Laws.AppendOwn
import Derived.Shelf.Strings.Builder1
import Derived.Laws.Concat
import Derived.Deep.RegionWith
import Derived.Shelf.Unicode.DecodeSlow
import Derived.Room.AppendZeros
set_option maxRecDepth 100000
set_option maxHeartbeats 8000000
namespace Go.Proofs.YtocnekbedcnmgaaGreatDoor
open Go.RowKit
structure SS (w:World) (xa:Option Addr) (xb xo:Nat) (ss:List ByteArray) : Prop where
 ad:0 < ss.length→xa=some ⟨xb,xo,none⟩
 cell:∀ j,j < ss.length→w.cell? ⟨xb,xo+j,none⟩=some (.string (ss.getD j ByteArray.empty))
theorem SS.below {w w':World} {xa:Option Addr} {xb xo:Nat} {ss:List ByteArray} (h:SS w xa xb xo ss) (hb:Below w.heap.size w w') : SS w' xa xb xo ss:=
 ⟨h.ad,fun j hj=>(hb.cell (p:=⟨xb,xo+j,none⟩) (World.block_lt_of_cell? _ _ (h.cell j hj))).trans (h.cell j hj)⟩
theorem below_next {w w1 w2:World} (h:Below w.heap.size w w1) (k:Below w1.heap.size w1 w2) : Below w.heap.size w w2:=h.trans (k.mono h.size)
theorem hide {p:Prop} (h:p) : Hid p:=h
theorem uh {p:Prop} (h:Hid p) : p:=h
theorem ret_int {k:IntKind} {a b:Int} (h:a=b) : Ending.returned (.int k a) = .returned (.int k b):=by rw[h]
theorem data_len (s:ByteArray) : s.data.toList.length=s.size:=Array.length_toList
theorem bytes_snoc (s:ByteArray) (k:Nat) (h:k < s.size) : s.data.toList.take (k+1)=s.data.toList.take k++[s[k]]:=by
 rw[List.take_succ_eq_append_getElem (by simpa using h)]; rfl
theorem bytes_all (s:ByteArray) : s.data.toList.take s.size=s.data.toList:=List.take_of_length_le (Nat.le_of_eq (data_len s))
def unesc:List UInt8→Option (List UInt8)
 | []=>some []
 | c :: r=>
  if c.toNat=126 then
   match r with
   | []=>none
   | d :: r'=>if d.toNat=48 then (unesc r').map (126 :: ·) else if d.toNat=49 then (unesc r').map (47 :: ·) else none
  else (unesc r).map (c :: ·)
theorem unesc_lit {c:UInt8} (r:List UInt8) (h:¬ (c.toNat:Int)=126) : unesc (c :: r)=(unesc r).map ([c]++·):=by
 rw[unesc.eq_def]; simp only; rw[if_neg (by omega)]; rfl
theorem unesc_end {c:UInt8} (h:(c.toNat:Int)=126) : unesc [c]=none:=by
 rw[unesc.eq_def]; simp only; rw[if_pos (by omega)]
theorem unesc_0 {c d:UInt8} (r:List UInt8) (h:(c.toNat:Int)=126) (h':(d.toNat:Int)=48) : unesc (c :: d :: r)=(unesc r).map ([126]++·):=by
 rw[unesc.eq_def]; simp only; rw[if_pos (by omega),if_pos (by omega)]; rfl
theorem unesc_1 {c d:UInt8} (r:List UInt8) (h:(c.toNat:Int)=126) (h':(d.toNat:Int)=49) : unesc (c :: d :: r)=(unesc r).map ([47]++·):=by
 rw[unesc.eq_def]; simp only; rw[if_pos (by omega),if_neg (by omega),if_pos (by omega)]; rfl
theorem unesc_bad {c d:UInt8} (r:List UInt8) (h:(c.toNat:Int)=126) (h':¬ (d.toNat:Int)=48) (h'':¬ (d.toNat:Int)=49) : unesc (c :: d :: r)=none:=by
 rw[unesc.eq_def]; simp only; rw[if_pos (by omega),if_neg (by omega),if_neg (by omega)]
def UnAt (l:List UInt8) (j:Nat) (acc:List UInt8) : Prop:=unesc l=(unesc (l.drop j)).map (acc++·)
theorem UnAt.start (l:List UInt8) : UnAt l 0 []:=by simp[UnAt]
theorem UnAt.step {l:List UInt8} {j k:Nat} {acc m:List UInt8} (h:UnAt l j acc) (hs:unesc (l.drop j)=(unesc (l.drop k)).map (m++·)) : UnAt l k (acc++m):=by
 unfold UnAt at *; rw[h,hs,Option.map_map]; congr 1; funext x; simp
theorem UnAt.bad {l:List UInt8} {j:Nat} {acc:List UInt8} (h:UnAt l j acc) (hs:unesc (l.drop j)=none) : unesc l=none:=by
 unfold UnAt at h; rw[h,hs]; rfl
theorem UnAt.fin {l:List UInt8} {j:Nat} {acc:List UInt8} (h:UnAt l j acc) (hj:l.length≤j) : unesc l=some acc:=by
 unfold UnAt at h; rw[h,List.drop_eq_nil_of_le hj]; simp[unesc]
theorem drop_at (s:ByteArray) (j:Nat) (h:j < s.size) : s.data.toList.drop j=s[j] :: s.data.toList.drop (j+1):=by
 rw[List.drop_eq_getElem_cons (by rw[data_len]; exact h)]; rfl
theorem drop_end (s:ByteArray) (j:Nat) (h:¬ j < s.size) : s.data.toList.drop j=[]:=List.drop_eq_nil_of_le (by rw[data_len]; omega)
def tokRes (o:Option (List UInt8)) : Value:=.tuple #[.string ⟨(o.getD []).toArray⟩,.bool o.isSome]
def pieces:List UInt8→List (List UInt8)
 | []=>[[]]
 | c :: r=>if c.toNat=47 then [] :: pieces r else (match pieces r with | []=>[[c]] | p :: ps=>(c :: p) :: ps)
theorem pieces_ne (l:List UInt8) : pieces l≠[]:=by
 cases l with
 | nil=>simp[pieces]
 | cons c r=>
  rw[pieces]; split
  ·simp
  ·split <;> simp
theorem pieces_cut {c:UInt8} (r:List UInt8) (h:c.toNat=47) : pieces (c :: r)=[] :: pieces r:=by rw[pieces,if_pos h]
theorem pieces_go {c:UInt8} {r p:List UInt8} {ps:List (List UInt8)} (h:¬ c.toNat=47) (hr:pieces r=p :: ps) : pieces (c :: r)=(c :: p) :: ps:=by rw[pieces,if_neg h,hr]
theorem split_eq:∀ l:List UInt8,Lib.splitK [47] 0 (Lib.count l [47]) l=pieces l
 | []=>by rw[Lib.count_miss (by simp[Lib.index])]; rfl
 | c :: r=>by
  have ih:=split_eq r
  by_cases h:c=47
  ·subst h
   have hix:Lib.index (47 :: r) [47]=((0:Nat) : Int):=by rw[Lib.index]; simp[List.isPrefixOf]
   rw[Lib.count_cons_eq,Nat.add_comm,Lib.splitK,hix]
   rw[pieces_cut r (by decide),← ih]
   simp
  ·have hp:([47] : List UInt8).isPrefixOf (c :: r)=false:=by simp[List.isPrefixOf,Ne.symm h]
   have hix:Lib.index (c :: r) [47]=if Lib.index r [47] == -1 then -1 else Lib.index r [47]+1:=by rw[Lib.index,hp]; simp
   have hn:¬ c.toNat=47:=fun e=>h (by have:=UInt8.ofNat_toNat (x:=c); rw[e] at this; exact this.symm)
   rw[Lib.count_cons_ne c 47 r h]
   by_cases hm:Lib.index r [47] = -1
   ·rw[Lib.count_miss hm] at ih ⊢
    rw[Lib.splitK] at ih ⊢
    rw[pieces_go hn ih.symm]
   ·have hge:=Lib.index_ge r [47]
    obtain⟨j,hj⟩ : ∃ j:Nat,Lib.index r [47]=j:=⟨(Lib.index r [47]).toNat,by omega⟩
    have hix':Lib.index (c :: r) [47]=((j+1:Nat) : Int):=by rw[hix,if_neg (fun e=>hm (beq_iff_eq.1 e)),hj]; omega
    rw[Lib.count_hit (by simp) hj,Nat.add_comm] at ih ⊢
    rw[Lib.splitK,hj] at ih
    rw[Lib.splitK,hix']
    rw[if_neg (fun e=>by have:=beq_iff_eq.1 e; omega)] at ih ⊢
    simp only[Int.toNat_natCast,Nat.add_zero] at ih ⊢
    rw[pieces_go hn ih.symm]
    simp
theorem splitB_pieces (s:ByteArray) : (Lib.splitB ⟨#[47]⟩ 0 (Lib.countB s ⟨#[47]⟩) s).map (·.data.toList)=pieces s.data.toList:=by
 rw[Lib.splitB_data]; exact split_eq _
def toks (l:List UInt8) : Option (List (List UInt8)):=(pieces l).mapM unesc
def ptoks:List UInt8→Option (List (List UInt8))
 | []=>some []
 | c :: r=>if c.toNat=47 then toks r else none
end Go.Proofs.YtocnekbedcnmgaaGreatDoor
namespace Go.Proofs.YtocnekbedcnmgaaGreatDoor
open Go.RowKit Go.Lib
def bt (s:ByteArray) (i:Nat) : Nat:=(s.data.toList.getD i 0).toNat
theorem bt_lt (s:ByteArray) (i:Nat) : bt s i < 256:=UInt8.toNat_lt _
theorem bt_at (s:ByteArray) (i:Nat) (h:i < s.size) : bt s i=s[i].toNat:=by
 unfold bt
 have:s.data.toList[i]?=some s[i]:=by rw[List.getElem?_eq_getElem (by rw[data_len]; exact h)]; rfl
 rw[List.getD_eq_getElem?_getD,this]; rfl
theorem dec (s:ByteArray) (i:Nat) : Utf8.decode s i=decodeN (s.size - i) (bt s i) (bt s (i+1)) (bt s (i+2)) (bt s (i+3)):=by
 rw[decode_N,data_len]; rfl
def rlN (n b0 b1 b2 b3:Nat) : Nat:=if b0 < 128 then 1 else if (decodeN n b0 b1 b2 b3).2=1 then 0 else (decodeN n b0 b1 b2 b3).2
def rl (s:ByteArray) (i:Nat) : Nat:=rlN (s.size - i) (bt s i) (bt s (i+1)) (bt s (i+2)) (bt s (i+3))
theorem rlN_one {n b0 b1 b2 b3:Nat} (h:b0 < 128) : rlN n b0 b1 b2 b3=1:=by simp[rlN,h]
theorem rlN_cont {n b0 b1 b2 b3:Nat} (h:128≤b0) (h':b0 < 192) : rlN n b0 b1 b2 b3=0:=by
 unfold rlN decodeN
 rw[if_neg (by omega)]
 repeat' split
 all_goals first | rfl | (exfalso; omega) | (simp at *; done) | (exfalso; simp at *; omega)
theorem rlN_2 {n b0 b1 b2 b3:Nat} (h:192≤b0) (h':b0 < 224) (hb1:b1 < 256) :
  rlN n b0 b1 b2 b3=if 2≤n∧128≤b1∧b1 < 192∧128≤(b0 - 192)*64+(b1 - 128) then 2 else 0:=by
 unfold rlN decodeN
 rw[if_neg (by omega)]
 repeat' split
 all_goals first | rfl | omega | (exfalso; omega) | (exfalso; simp at *; omega)
theorem rlN_3 {n b0 b1 b2 b3:Nat} (h:224≤b0) (h':b0 < 240) (hb1:b1 < 256) (hb2:b2 < 256) :
  rlN n b0 b1 b2 b3=if 3≤n∧128≤b1∧b1 < 192∧128≤b2∧b2 < 192∧2048≤(b0 - 224)*4096+(b1 - 128)*64+(b2 - 128)∧((b0 - 224)*4096+(b1 - 128)*64+(b2 - 128) < 55296∨57344≤(b0 - 224)*4096+(b1 - 128)*64+(b2 - 128)) then 3 else 0:=by
 unfold rlN decodeN
 rw[if_neg (by omega)]
 repeat' split
 all_goals first | rfl | omega | (exfalso; omega) | (exfalso; simp at *; omega)
theorem rlN_4 {n b0 b1 b2 b3:Nat} (h:240≤b0) (h':b0 < 256) (hb1:b1 < 256) (hb2:b2 < 256) (hb3:b3 < 256) :
  rlN n b0 b1 b2 b3=if 4≤n∧128≤b1∧b1 < 192∧128≤b2∧b2 < 192∧128≤b3∧b3 < 192∧65536≤(b0 - 240)*262144+(b1 - 128)*4096+(b2 - 128)*64+(b3 - 128)∧(b0 - 240)*262144+(b1 - 128)*4096+(b2 - 128)*64+(b3 - 128)≤1114111 then 4 else 0:=by
 unfold rlN decodeN
 rw[if_neg (by omega)]
 repeat' split
 all_goals first | rfl | omega | (exfalso; omega) | (exfalso; simp at *; omega)
end Go.Proofs.YtocnekbedcnmgaaGreatDoor
namespace Go.Proofs.YtocnekbedcnmgaaGreatDoor
open Go.RowKit
theorem infoU8:(Tryz.prog.info? 5).map (fun i=>(i.zero,i.size,i.bytes))=some (some (.int .u8 0),1,1):=by kernel_rfl
theorem byteCells_at {l:List UInt8} {j:Nat} (hj:j < l.length) : (Lib.byteCells l)[j]?=some (.int .u8 (l[j].toNat:Int)):=by simp[Lib.byteCells,hj]
theorem lit1 (w:World) (t:TypeId) (x:Value) : ∀ j u,[x][j]?=some u→(w.alloc (.cells #[x] t)).cell? ((⟨w.heap.size,0,none⟩ : Addr).add j)=some u:=by
 intro j u hj
 match j,hj with
 | 0,hj=>simp at hj; subst hj; simp[Addr.add]
theorem lit2 (w:World) (t:TypeId) (x y:Value) : ∀ j u,[x,y][j]?=some u→(w.alloc (.cells #[x,y] t)).cell? ((⟨w.heap.size,0,none⟩ : Addr).add j)=some u:=by
 intro j u hj
 match j,hj with
 | 0,hj=>simp at hj; subst hj; simp[Addr.add]
 | 1,hj=>simp at hj; subst hj; simp[Addr.add]
theorem one1 (k:IntKind) (a:Int) : ∀ u∈[Value.int k a],u.oneCell'=true:=by intro u hu; simp at hu; subst hu; rfl
theorem one2 (k:IntKind) (a b:Int) : ∀ u∈[Value.int k a,Value.int k b],u.oneCell'=true:=by
 intro u hu; simp at hu; rcases hu with rfl | rfl <;> rfl
theorem own_step {w1:World} {B e:Nat} {v':Value} {l m:List UInt8} {news:List Value} {k:Nat} (h:w1.ownsRow B e 1 v' ((Lib.byteCells l).length+k) (Lib.byteCells l++news)) (hn:news=Lib.byteCells m) (hk:k=m.length) :
  w1.ownsRow B e 1 v' (Lib.byteCells (l++m)).length (Lib.byteCells (l++m)):=by
 subst hn; subst hk
 rw[Lib.byteCells_append]
 have:(Lib.byteCells l++Lib.byteCells m).length=(Lib.byteCells l).length+m.length:=by simp[Lib.byteCells]
 rw[this]; exact h
theorem convert_own {w:World} {B:Nat} {v:Value} {l:List UInt8} (h:w.ownsRow B 5 1 v (Lib.byteCells l).length (Lib.byteCells l)) : (convert 37 9 v).run Tryz.prog w = .ok (.string ⟨l.toArray⟩) w:=by
 have hl:=Lib.byteCells_length l
 rcases h.2 with ⟨hv,h0⟩ | ⟨g,cap,cur,hv,_⟩
 ·have e0:l=[]:=List.eq_nil_of_length_eq_zero (by omega)
  subst hv; subst e0
  exact run_convert_bytes_nil (P:=Tryz.prog) w 37 5 Tryz.underlying37 Tryz.underlying5 0 0 9 Tryz.underlying9
 ·subst hv
  rw[hl] at h ⊢
  exact run_convert_bytes_back (P:=Tryz.prog) w 37 9 5 ⟨g,0,none⟩ cap l Tryz.underlying37 Tryz.underlying5 Tryz.underlying9 (fun j hj=>by
   rw[show ((⟨g,0,none⟩ : Addr).add j)=⟨g,j,none⟩ from by simp[Addr.add]; omega,h.cellAt j (by omega)]; exact byteCells_at hj)
def utfZ (r:Nat) : List Nat:=
 if r < 128 then [r] else if r < 2048 then [192+r / 64,128+r % 64]
 else if r < 65536 then [224+r / 4096,128+r / 64 % 64,128+r % 64]
 else [240+r / 262144,128+r / 4096 % 64,128+r / 64 % 64,128+r % 64]
def utf (r:Nat) : List UInt8:=(utfZ r).map UInt8.ofNat
def strOf (l:List UInt8) : ByteArray:=⟨l.toArray⟩
theorem strOf_toList (l:List UInt8) : (strOf l).data.toList=l:=by simp[strOf]
theorem strOf_size (l:List UInt8) : (strOf l).size=l.length:=by rw[← data_len,strOf_toList]
theorem convert_bytes (w:World) (l:List UInt8) (cs:Array Value) (n:Nat) (hn:n=l.length) (hcs:cs.toList=Lib.byteCells l) :
  (convert 37 9 (.slice (some ⟨w.heap.size,0,none⟩) n n)).run Tryz.prog (w.alloc (.cells cs 5)) = .ok (.string (strOf l)) (w.alloc (.cells cs 5)):=by
 subst hn
 exact run_convert_bytes_back (P:=Tryz.prog) _ 37 9 5 ⟨w.heap.size,0,none⟩ l.length l Tryz.underlying37 Tryz.underlying5 Tryz.underlying9 (fun j hj=>by
  rw[Go.WideShapes.add_plain,cell_of_row _ w.heap.size (0+j) cs 5 (0,0) (heap_alloc_new w _),Nat.zero_add]
  have h:=byteCells_at hj
  rw[← hcs] at h; simpa using h)
theorem utf8_walk (r:Nat) (w:World) (hr:r≤1114111) :
  Calls Tryz.prog 163 #[.int .i64 r] w fun e w'=>e = .returned (.string (strOf (utf r)))∧Below w.heap.size w w':=by
 by_cases h1:r < 128
 ·have hcv:=convert_bytes w (utf r) #[.int .u8 (r:Int)] 1 (by simp[utf,utfZ,h1]) (by simp[utf,utfZ,h1,Lib.byteCells]; omega)
  have h1':(r:Int) < 128:=by omega
  generalize utf r=u at *
  go_enter Tryz.func163,Tryz.ntmps163
  go_wp2
  go_ret
  exact⟨rfl,(Below.refl _ _).alloc (Nat.le_refl _) _⟩
 ·by_cases h2:r < 2048
  ·have hcv:=convert_bytes w (utf r) #[.int .u8 (192+(r:Int) / 64),.int .u8 (128+(r:Int) % 64)] 2 (by simp[utf,utfZ,h1,h2]) (by simp[utf,utfZ,h1,h2,Lib.byteCells]; omega)
   have h1':¬ (r:Int) < 128:=by omega
   have h2':(r:Int) < 2048:=by omega
   generalize utf r=u at *
   go_enter Tryz.func163,Tryz.ntmps163
   go_wp2
   go_ret
   exact⟨rfl,(Below.refl _ _).alloc (Nat.le_refl _) _⟩
  ·by_cases h3:r < 65536
   ·have hcv:=convert_bytes w (utf r) #[.int .u8 (224+(r:Int) / 4096),.int .u8 (128+(r:Int) / 64 % 64),.int .u8 (128+(r:Int) % 64)] 3 (by simp[utf,utfZ,h1,h2,h3]) (by simp[utf,utfZ,h1,h2,h3,Lib.byteCells]; omega)
    have h1':¬ (r:Int) < 128:=by omega
    have h2':¬ (r:Int) < 2048:=by omega
    have h3':(r:Int) < 65536:=by omega
    generalize utf r=u at *
    go_enter Tryz.func163,Tryz.ntmps163
    go_wp2
    go_ret
    exact⟨rfl,(Below.refl _ _).alloc (Nat.le_refl _) _⟩
   ·have hcv:=convert_bytes w (utf r) #[.int .u8 (240+(r:Int) / 262144),.int .u8 (128+(r:Int) / 4096 % 64),.int .u8 (128+(r:Int) / 64 % 64),.int .u8 (128+(r:Int) % 64)] 4 (by simp[utf,utfZ,h1,h2,h3]) (by simp[utf,utfZ,h1,h2,h3,Lib.byteCells]; omega)
    have h1':¬ (r:Int) < 128:=by omega
    have h2':¬ (r:Int) < 2048:=by omega
    have h3':¬ (r:Int) < 65536:=by omega
    generalize utf r=u at *
    go_enter Tryz.func163,Tryz.ntmps163
    go_wp2
    go_ret
    exact⟨rfl,(Below.refl _ _).alloc (Nat.le_refl _) _⟩
def hexs:List UInt8:=[48,49,50,51,52,53,54,55,56,57,97,98,99,100,101,102]
def qB (c:UInt8) : List UInt8:=
 if c.toNat=34∨c.toNat=92 then [92,c] else if c.toNat=8 then [92,98] else if c.toNat=9 then [92,116] else if c.toNat=10 then [92,110]
 else if c.toNat=12 then [92,102] else if c.toNat=13 then [92,114] else if c.toNat < 32 then [92,117,48,48,hexs.getD (c.toNat / 16) 0,hexs.getD (c.toNat % 16) 0] else [c]
theorem qB_le (c:UInt8) : (qB c).length≤6:=by
 unfold qB
 repeat' split
 all_goals simp
def qs (l:List UInt8) : List UInt8:=l.flatMap qB
def quoted (l:List UInt8) : List UInt8:=34 :: (qs l++[34])
theorem qs_snoc (l:List UInt8) (c:UInt8) : qs (l++[c])=qs l++qB c:=by simp[qs]
theorem qs_app (l m:List UInt8) : qs (l++m)=qs l++qs m:=by simp[qs]
theorem qs_le (l:List UInt8) : (qs l).length≤6*l.length:=by
 induction l with
 | nil=>simp[qs]
 | cons c l ih=>have:=qB_le c; simp only[qs,List.flatMap_cons,List.length_append,List.length_cons] at *; omega
theorem q_esc {c:UInt8} (h:(c.toNat:Int)=34∨(c.toNat:Int)=92) : qB c=[92,c]:=by unfold qB; rw[if_pos (by omega)]
theorem q_8 {c:UInt8} (h:(c.toNat:Int)=8) : qB c=[92,98]:=by unfold qB; rw[if_neg (by omega),if_pos (by omega)]
theorem q_9 {c:UInt8} (h:(c.toNat:Int)=9) : qB c=[92,116]:=by unfold qB; rw[if_neg (by omega),if_neg (by omega),if_pos (by omega)]
theorem q_10 {c:UInt8} (h:(c.toNat:Int)=10) : qB c=[92,110]:=by unfold qB; rw[if_neg (by omega),if_neg (by omega),if_neg (by omega),if_pos (by omega)]
theorem q_12 {c:UInt8} (h:(c.toNat:Int)=12) : qB c=[92,102]:=by unfold qB; rw[if_neg (by omega),if_neg (by omega),if_neg (by omega),if_neg (by omega),if_pos (by omega)]
theorem q_13 {c:UInt8} (h:(c.toNat:Int)=13) : qB c=[92,114]:=by unfold qB; rw[if_neg (by omega),if_neg (by omega),if_neg (by omega),if_neg (by omega),if_neg (by omega),if_pos (by omega)]
def Ctl (n:Nat) : Prop:=n < 32∧¬ n=8∧¬ n=9∧¬ n=10∧¬ n=12∧¬ n=13
theorem q_ctl {c:UInt8} (h:Ctl c.toNat) : qB c=[92,117,48,48,hexs.getD (c.toNat / 16) 0,hexs.getD (c.toNat % 16) 0]:=by
 obtain⟨h1,h2,h3,h4,h5,h6⟩:=h
 unfold qB; rw[if_neg (by omega),if_neg h2,if_neg h3,if_neg h4,if_neg h5,if_neg h6,if_pos h1]
theorem q_lit {c:UInt8} (h:¬ c.toNat=34) (h':¬ c.toNat=92) (h'':32≤c.toNat) : qB c=[c]:=by
 unfold qB; rw[if_neg (by omega),if_neg (by omega),if_neg (by omega),if_neg (by omega),if_neg (by omega),if_neg (by omega),if_neg (by omega)]
theorem hex_at (k:Nat) (h:k < 16) : (⟨hexs.toArray⟩ : ByteArray)[k]'(by show k < 16; exact h)=hexs.getD k 0:=by
 rcases (show k=0∨k=1∨k=2∨k=3∨k=4∨k=5∨k=6∨k=7∨k=8∨k=9∨k=10∨k=11∨k=12∨k=13∨k=14∨k=15 from by omega) with rfl | rfl | rfl | rfl | rfl | rfl | rfl | rfl | rfl | rfl | rfl | rfl | rfl | rfl | rfl | rfl <;> rfl
theorem qs_high:∀ l:List UInt8,(∀ c∈l,128≤c.toNat)→qs l=l
 | [],_=>rfl
 | c :: l,h=>by
  have h1:=h c List.mem_cons_self
  have ih:=qs_high l (fun d hd=>h d (List.mem_cons_of_mem _ hd))
  show qB c++qs l=c :: l
  rw[q_lit (by omega) (by omega) (by omega),ih]; rfl
def atB (s:ByteArray) (k:Nat) (c:Int) : Bool:=match s.data.toList[k]? with
 | some x=>(x.toNat:Int) == c
 | none=>false
theorem getElem_data (s:ByteArray) (k:Nat) (h:k < s.size) : s.data.toList[k]?=some s[k]:=by
 rw[List.getElem?_eq_getElem (by rw[data_len]; exact h)]; rfl
theorem atB_in {s:ByteArray} {k:Nat} {c:Int} (h:k < s.size) : atB s k c=((s[k].toNat:Int) == c):=by
 unfold atB; rw[getElem_data s k h]
theorem atB_out {s:ByteArray} {k:Nat} {c:Int} (h:¬ k < s.size) : atB s k c=false:=by
 unfold atB; rw[List.getElem?_eq_none (by rw[data_len]; omega)]
theorem ret_bool {a b:Bool} (h:a=b) : Ending.returned (.bool a) = .returned (.bool b):=by rw[h]
theorem at_walk (s:ByteArray) (i:Int) (k:Nat) (hik:i=(k:Int)) (c:Int) (w:World) :
  Calls Tryz.prog 107 #[.string s,.int .i64 i,.int .u8 c] w fun e w'=>e = .returned (.bool (atB s k c))∧w=w':=by
 subst hik
 by_cases h:k < s.size
 ·have HB:=hide (atB_in (c:=c) h)
  have h':(k:Int) < (s.size:Int):=by omega
  go_enter Tryz.func107,Tryz.ntmps107
  go_wp2
  go_ret
  exact⟨ret_bool (by rw[uh HB]),rfl⟩
 ·have HB:=hide (atB_out (c:=c) h)
  have h':decide ((k:Int) < (s.size:Int))=false:=by simp; omega
  go_enter Tryz.func107,Tryz.ntmps107
  go_wp2
  go_ret
  exact⟨ret_bool (by rw[uh HB]),rfl⟩
theorem own_below {w w1:World} {B e size n:Nat} {v:Value} {xs:List Value} (h:w.ownsRow B e size v n xs) (hb:Below w.heap.size w w1) : w1.ownsRow B e size v n xs:=by
 refine⟨h.1,?_⟩
 rcases h.2 with h0 | ⟨g,cap,cur,hv,hB,hg,r⟩
 ·exact .inl h0
 ·exact .inr ⟨g,cap,cur,hv,hB,(hb.block g (Array.getElem?_eq_some_iff.1 hg).1).trans hg,r⟩
theorem own_mono {w:World} {B B' e size n:Nat} {v:Value} {xs:List Value} (h:w.ownsRow B e size v n xs) (hB:B'≤B) : w.ownsRow B' e size v n xs:=by
 refine⟨h.1,?_⟩
 rcases h.2 with h0 | ⟨g,cap,cur,hv,hb,r⟩
 ·exact .inl h0
 ·exact .inr ⟨g,cap,cur,hv,Nat.le_trans hB hb,r⟩
theorem one_bytes (l:List UInt8) : ∀ u∈Lib.byteCells l,u.oneCell'=true:=by
 intro u hu
 simp only[Lib.byteCells,List.mem_map] at hu
 obtain⟨b,_,rfl⟩:=hu
 rfl
theorem conv_bytes (w:World) (l:List UInt8) : ∃ cap W,(convert 9 37 (.string (strOf l))).run Tryz.prog w = .ok (.slice (some ⟨w.heap.size,0,none⟩) l.length cap) W ∧
  (∀ j u,(Lib.byteCells l)[j]?=some u→W.cell? ((⟨w.heap.size,0,none⟩ : Addr).add j)=some u)∧Below w.heap.size w W∧(∀ (B e:Nat) v n xs,w.ownsRow B e 1 v n xs→W.ownsRow B e 1 v n xs)∧w.heap.size≤W.heap.size:=by
 have h:=run_bytes_of_string (P:=Tryz.prog) w 9 37 5 (strOf l) Tryz.underlying9 Tryz.underlying37 Tryz.underlying5
 have hsz:(strOf l).size=l.length:=strOf_size l
 refine⟨_,_,(by rw[h,hsz]),?_,?_,?_,?_⟩
 ·intro j u hj
  have hjl:j < l.length:=by
   have:=(List.getElem?_eq_some_iff.1 hj).1
   rwa [Lib.byteCells_length] at this
  have hd:(strOf l).data.size=l.length:=by simp[strOf]
  have h1:=bytesRow_at (strOf l) (grownCap w (strOf l).size 0 5) j (by omega)
  rw[Go.WideShapes.add_plain,show (0:Nat)+j=j from by omega]
  have hh:(w.drew.alloc (.cells (bytesRow (strOf l) (grownCap w (strOf l).size 0 5)) 5 ((bytesRow (strOf l) (grownCap w (strOf l).size 0 5)).size,(bytesRow (strOf l) (grownCap w (strOf l).size 0 5)).size+1))).heap[w.heap.size]?=some (.cells (bytesRow (strOf l) (grownCap w (strOf l).size 0 5)) 5 ((bytesRow (strOf l) (grownCap w (strOf l).size 0 5)).size,(bytesRow (strOf l) (grownCap w (strOf l).size 0 5)).size+1)):=heap_alloc_new w.drew _
  rw[hsz] at hh h1
  rw[cell_of_row _ w.heap.size j _ 5 _ hh,h1]
  rw[byteCells_at hjl] at hj
  rw[← hj]
  simp[strOf]
 ·exact ((Below.refl _ _).drew).alloc (Nat.le_refl _) _
 ·intro B e v n xs ho
  exact World.ownsRow.alloc (w:=w.drew) ho _
 ·show w.heap.size≤(w.heap.push _).size
  simp
theorem infoString:(Tryz.prog.info? 9).map (fun i=>(i.zero,i.size,i.bytes))=some (some (.string ByteArray.empty),1,16):=by kernel_rfl
def tokCell (t:List UInt8) : Value:=.string ⟨t.toArray⟩
abbrev OT (w:World) (B:Nat) (v:Value) (ts:List (List UInt8)) : Prop:=w.ownsRow B 9 1 v ts.length (ts.map tokCell)
def baT (t:List UInt8) : ByteArray:=⟨t.toArray⟩
theorem OT.shape {w:World} {B:Nat} {v:Value} {ts:List (List UInt8)} (h:OT w B v ts) : ∃ a g cap,v = .slice a ts.length cap∧SS w a g 0 (ts.map baT)∧(0 < ts.length→B≤g):=by
 rcases h.2 with ⟨hv,h0⟩ | ⟨g,cap,cur,hv,hb,hg,_⟩
 ·exact⟨none,0,0,by rw[hv,h0],⟨fun h=>by rw[List.length_map] at h; omega,fun j hj=>by rw[List.length_map] at hj; omega⟩,fun h=>by omega⟩
 ·refine⟨some ⟨g,0,none⟩,g,cap,hv,⟨fun _=>rfl,fun j hj=>?_⟩,fun _=>hb⟩
  subst hv
  rw[List.length_map] at hj
  rw[Nat.zero_add,h.cellAt j (by omega)]
  simp[tokCell,baT,hj]
theorem one_tok (s:ByteArray) : ∀ u∈[Value.string s],u.oneCell'=true:=by intro u hu; simp at hu; subst hu; rfl
theorem OT.step {w:World} {B:Nat} {v:Value} {ts:List (List UInt8)} {t:List UInt8} (h:w.ownsRow B 9 1 v (ts.length+1) (ts.map tokCell++[tokCell t])) : OT w B v (ts++[t]):=by
 unfold OT; rw[List.length_append,List.map_append]; exact h
theorem tokRes_some (t:List UInt8) : tokRes (some t) = .tuple #[.string (baT t),.bool true]:=rfl
theorem tokRes_none:tokRes none = .tuple #[.string ⟨#[]⟩,.bool false]:=rfl
def NoSl (l:List UInt8) (f k:Nat) : Prop:=∀ m,f≤m→m < k→∀ c,l[m]?=some c→¬ c.toNat=47
theorem pieces_app {p:List UInt8} (hp:∀ c∈p,¬ c.toNat=47) {c:UInt8} (hc:c.toNat=47) (r:List UInt8) : pieces (p++c :: r)=p :: pieces r:=by
 induction p with
 | nil=>exact pieces_cut r hc
 | cons a p ih=>
  have:=ih (fun c hc=>hp c (List.mem_cons_of_mem _ hc))
  exact pieces_go (hp a List.mem_cons_self) this
theorem pieces_one {p:List UInt8} (hp:∀ c∈p,¬ c.toNat=47) : pieces p=[p]:=by
 induction p with
 | nil=>rfl
 | cons a p ih=>
  have:=ih (fun c hc=>hp c (List.mem_cons_of_mem _ hc))
  exact pieces_go (hp a List.mem_cons_self) this
theorem NoSl.piece {l:List UInt8} {f k:Nat} (h:NoSl l f k) : ∀ c∈(l.drop f).take (k - f),¬ c.toNat=47:=by
 intro c hc
 obtain⟨i,hi,rfl⟩:=List.mem_iff_getElem.1 hc
 rw[List.length_take,List.length_drop] at hi
 refine h (f+i) (by omega) (by omega) _ ?_
 rw[List.getElem_take,List.getElem_drop,List.getElem?_eq_getElem (by omega)]
theorem NoSl.cut {l:List UInt8} {f k:Nat} (h:NoSl l f k) (hfk:f≤k) (hk:k < l.length) (hc:l[k].toNat=47) : pieces (l.drop f)=(l.drop f).take (k - f) :: pieces (l.drop (k+1)):=by
 have e:l.drop f=(l.drop f).take (k - f)++l[k] :: l.drop (k+1):=by
  have h1:=(List.take_append_drop (k - f) (l.drop f)).symm
  rw[List.drop_drop,show f+(k - f)=k from by omega,List.drop_eq_getElem_cons hk] at h1
  exact h1
 have h2:=pieces_app h.piece hc (l.drop (k+1))
 rw[← e] at h2
 exact h2
theorem NoSl.last {l:List UInt8} {f:Nat} (h:NoSl l f l.length) : pieces (l.drop f)=[l.drop f]:=by
 have hp:=h.piece
 rw[List.take_of_length_le (by rw[List.length_drop]; omega)] at hp
 exact pieces_one hp
theorem NoSl.snoc {l:List UInt8} {f k:Nat} (h:NoSl l f k) (hk:k < l.length) (hc:¬ l[k].toNat=47) : NoSl l f (k+1):=by
 intro m h1 h2 c hm
 by_cases e:m=k
 ·subst e; rw[List.getElem?_eq_getElem hk] at hm; simp at hm; subst hm; exact hc
 ·exact h m h1 (by omega) c hm
theorem NoSl.none (l:List UInt8) (k:Nat) : NoSl l k k:=fun m h1 h2=>by omega
theorem toks_cons {l p:List UInt8} {ps:List (List UInt8)} (h:pieces l=p :: ps) : toks l=(unesc p).bind fun t=>(ps.mapM unesc).map (t :: ·):=by
 unfold toks; rw[h,List.mapM_cons]
 cases unesc p with
 | none=>rfl
 | some t=>cases List.mapM unesc ps <;> rfl
def TkAt (l:List UInt8) (f:Nat) (done:List (List UInt8)) : Prop:=toks (l.drop 1)=(toks (l.drop f)).map (done++·)
theorem TkAt.cut {l:List UInt8} {f k:Nat} {done:List (List UInt8)} {t:List UInt8} (h:TkAt l f done) (hn:NoSl l f k) (hfk:f≤k) (hk:k < l.length) (hc:l[k].toNat=47) (hu:unesc ((l.drop f).take (k - f))=some t) : TkAt l (k+1) (done++[t]):=by
 unfold TkAt at *
 rw[h,toks_cons (hn.cut hfk hk hc),hu]
 show Option.map (done++·) (Option.map (t :: ·) (toks (l.drop (k+1))))=_
 rw[Option.map_map]; congr 1; funext x; simp
theorem TkAt.cutBad {l:List UInt8} {f k:Nat} {done:List (List UInt8)} (h:TkAt l f done) (hn:NoSl l f k) (hfk:f≤k) (hk:k < l.length) (hc:l[k].toNat=47) (hu:unesc ((l.drop f).take (k - f))=none) : toks (l.drop 1)=none:=by
 unfold TkAt at h; rw[h,toks_cons (hn.cut hfk hk hc),hu]; rfl
theorem TkAt.last {l:List UInt8} {f:Nat} {done:List (List UInt8)} {t:List UInt8} (h:TkAt l f done) (hn:NoSl l f l.length) (hu:unesc ((l.drop f).take (l.length - f))=some t) : toks (l.drop 1)=some (done++[t]):=by
 rw[List.take_of_length_le (by rw[List.length_drop]; omega)] at hu
 unfold TkAt at h; rw[h,toks_cons hn.last,hu]; rfl
theorem TkAt.lastBad {l:List UInt8} {f:Nat} {done:List (List UInt8)} (h:TkAt l f done) (hn:NoSl l f l.length) (hu:unesc ((l.drop f).take (l.length - f))=none) : toks (l.drop 1)=none:=by
 rw[List.take_of_length_le (by rw[List.length_drop]; omega)] at hu
 unfold TkAt at h; rw[h,toks_cons hn.last,hu]; rfl
theorem ptoks_cons {l:List UInt8} (h0:0 < l.length) (hc:l[0].toNat=47) : ptoks l=toks (l.drop 1):=by
 cases l with
 | nil=>simp at h0
 | cons c r=>simp only[List.getElem_cons_zero] at hc; rw[ptoks,if_pos hc]; rfl
theorem ptoks_bad {l:List UInt8} (h0:0 < l.length) (hc:¬ l[0].toNat=47) : ptoks l=none:=by
 cases l with
 | nil=>simp at h0
 | cons c r=>simp only[List.getElem_cons_zero] at hc; rw[ptoks,if_neg hc]
theorem extract_toList (s:ByteArray) (f k:Nat) : (s.extract f k).data.toList=(s.data.toList.drop f).take (k - f):=by
 exact Lib.extract_data s f k
theorem specTok_walk (s:ByteArray) (w:World) (hs:s.size≤1048576) :
  Calls Tryz.prog 136 #[.string s] w fun e w'=>e = .returned (tokRes (unesc s.data.toList))∧Below w.heap.size w w':=by
 obtain⟨i0,hi,hz0,hz1,hz2⟩:=info_parts infoU8
 go_enter Tryz.func136,Tryz.ntmps136
 go_wp2
 go_loopw [4,5] (fun v i wr=>∃ (j:Nat) (acc:List UInt8),j≤s.size∧i = .int .i64 j∧wr.ownsRow w.heap.size 5 1 v (Lib.byteCells acc).length (Lib.byteCells acc)∧Below w.heap.size w wr∧(Lib.byteCells acc).length≤j∧UnAt s.data.toList j acc) (fun _ i _=>s.size - (intOf i).toNat)
 case atStart=>exact⟨0,[],Nat.zero_le _,rfl,World.ownsRow_lit w #[] 0 (Nat.le_refl _) (by unfold maxLen; omega) rfl,(Below.refl _ _).alloc (Nat.le_refl _) _,Nat.le_refl _,UnAt.start _⟩
 case round=>
  obtain⟨j,acc,hj,rfl,hown,hb,hal,hun⟩:=hrel
  have hwsz:=hb.size
  have HU:=hide hun
  clear hun
  by_cases hjs:j < s.size
  ·have hd:=drop_at s j hjs
   have HB:=hide hb
   clear hb
   by_cases h126:(s[j].toNat:Int)=126
   ·have t1:((s[j].toNat:Int) != 126)=false:=by simpa using h126
    by_cases h2:j+1 < s.size
    ·have hd2:=drop_at s (j+1) h2
     by_cases h48:(s[j+1].toNat:Int)=48
     ·have a0:atB s (j+1) 48=true:=by rw[atB_in h2]; simpa using h48
      have HS:Hid (unesc (s.data.toList.drop j)=(unesc (s.data.toList.drop (j+2))).map ([126]++·)):=by show _=_; rw[hd,hd2,unesc_0 _ h126 h48]
      clear h48
      clear h126 hd hd2
      go_wp2_with (first | (go_at_call 107; refine (at_walk s _ (j+1) (by omega) _ _).mono ?_; rintro e w' ⟨rfl,rfl⟩) | (at_builtin; refine wpList_append_own _ rfl (.tmp 27) (.tmp 28) 37 rfl w.heap.size 5 i0 (.int .u8 0) 1 1 Tryz.underlying37 hi hz0 hz1 hz2 rfl (by decide) _ _ _ rfl (hown.alloc _) ⟨wr.heap.size,0,none⟩ 1 1 [.int .u8 126] rfl rfl (lit1 _ _ _) (one1 _ _) (by unfold maxLen; omega) (by omega) (by simp; omega) ?_))
      intro v2 w2 hown2 hgrow2 _
      have hb2:Below w.heap.size w w2:=((uh HB).alloc hwsz _).grown hgrow2 (by simp; omega) (fun k hk=>(hown.lt k hk).1)
      have hown2':=own_step (m:=[126]) hown2 (by simp[Lib.byteCells]) rfl
      clear hown2 hgrow2 hown HB
      go_wp2
      go_roundw
      case rel=>exact⟨j+2,acc++[126],by omega,by go_num,hown2',hb2,by simp[Lib.byteCells] at hal ⊢; omega,(uh HU).step (uh HS)⟩
      case measure=>simp[intOf]; omega
     ·by_cases h49:(s[j+1].toNat:Int)=49
      ·have a0:atB s (j+1) 48=false:=by rw[atB_in h2]; simpa using h48
       have a1:atB s (j+1) 49=true:=by rw[atB_in h2]; simpa using h49
       have HS:Hid (unesc (s.data.toList.drop j)=(unesc (s.data.toList.drop (j+2))).map ([47]++·)):=by show _=_; rw[hd,hd2,unesc_1 _ h126 h49]
       clear h48 h49
       clear h126 hd hd2
       go_wp2_with (first | (go_at_call 107; refine (at_walk s _ (j+1) (by omega) _ _).mono ?_; rintro e w' ⟨rfl,rfl⟩) | (at_builtin; refine wpList_append_own _ rfl (.tmp 36) (.tmp 37) 37 rfl w.heap.size 5 i0 (.int .u8 0) 1 1 Tryz.underlying37 hi hz0 hz1 hz2 rfl (by decide) _ _ _ rfl (hown.alloc _) ⟨wr.heap.size,0,none⟩ 1 1 [.int .u8 47] rfl rfl (lit1 _ _ _) (one1 _ _) (by unfold maxLen; omega) (by omega) (by simp; omega) ?_))
       intro v2 w2 hown2 hgrow2 _
       have hb2:Below w.heap.size w w2:=((uh HB).alloc hwsz _).grown hgrow2 (by simp; omega) (fun k hk=>(hown.lt k hk).1)
       have hown2':=own_step (m:=[47]) hown2 (by simp[Lib.byteCells]) rfl
       clear hown2 hgrow2 hown HB
       go_wp2
       go_roundw
       case rel=>exact⟨j+2,acc++[47],by omega,by go_num,hown2',hb2,by simp[Lib.byteCells] at hal ⊢; omega,(uh HU).step (uh HS)⟩
       case measure=>simp[intOf]; omega
      ·have a0:atB s (j+1) 48=false:=by rw[atB_in h2]; simpa using h48
       have a1:atB s (j+1) 49=false:=by rw[atB_in h2]; simpa using h49
       have HF:=hide ((uh HU).bad (by rw[hd,hd2,unesc_bad _ h126 h48 h49]))
       clear h126 h48 h49 hd hd2 hown
       go_wp2_with (go_at_call 107; refine (at_walk s _ (j+1) (by omega) _ _).mono ?_; rintro e w' ⟨rfl,rfl⟩)
       go_ret2
       exact⟨by rw[uh HF]; rfl,uh HB⟩
    ·have a0:atB s (j+1) 48=false:=atB_out h2
     have a1:atB s (j+1) 49=false:=atB_out h2
     have HF:=hide ((uh HU).bad (by rw[hd,drop_end s (j+1) h2,unesc_end h126]))
     clear h126 hd hown
     go_wp2_with (go_at_call 107; refine (at_walk s _ (j+1) (by omega) _ _).mono ?_; rintro e w' ⟨rfl,rfl⟩)
     go_ret2
     exact⟨by rw[uh HF]; rfl,uh HB⟩
   ·have t1:((s[j].toNat:Int) != 126)=true:=by simpa using h126
    have HS:Hid (unesc (s.data.toList.drop j)=(unesc (s.data.toList.drop (j+1))).map ([s[j]]++·)):=by show _=_; rw[hd,unesc_lit _ h126]
    clear h126 hd
    go_wp2_with (at_builtin; refine wpList_append_own _ rfl (.tmp 17) (.tmp 21) 37 rfl w.heap.size 5 i0 (.int .u8 0) 1 1 Tryz.underlying37 hi hz0 hz1 hz2 rfl (by decide) _ _ _ rfl (hown.alloc _) ⟨wr.heap.size,0,none⟩ 1 1 [.int .u8 s[j].toNat] rfl rfl (lit1 _ _ _) (one1 _ _) (by unfold maxLen; omega) (by omega) (by simp; omega) ?_)
    intro v2 w2 hown2 hgrow2 _
    have hb2:Below w.heap.size w w2:=((uh HB).alloc hwsz _).grown hgrow2 (by simp; omega) (fun k hk=>(hown.lt k hk).1)
    have hown2':=own_step (m:=[s[j]]) hown2 (by simp[Lib.byteCells]) rfl
    clear hown2 hgrow2 hown HB
    go_wp2
    go_roundw
    case rel=>exact⟨j+1,acc++[s[j]],by omega,by go_num,hown2',hb2,by simp[Lib.byteCells] at hal ⊢; omega,(uh HU).step (uh HS)⟩
    case measure=>simp[intOf]; omega
  ·have hf:=(uh HU).fin (by rw[data_len]; omega)
   have HF:=hide hf
   have hcv:=convert_own hown
   clear hf hown
   go_wp2
   go_ret2
   exact⟨by rw[uh HF]; rfl,hb⟩
theorem specToks_walk (s:ByteArray) (w:World) (hs:s.size≤1048576) :
  Calls Tryz.prog 93 #[.string s] w fun e w'=>∃ v,e = .returned (.tuple #[v,.bool (ptoks s.data.toList).isSome])∧OT w' w.heap.size v ((ptoks s.data.toList).getD [])∧Below w.heap.size w w':=by
 obtain⟨i0,hi,hz0,hz1,hz2⟩:=info_parts infoString
 have hown0:=World.ownsRow_lit (base:=w.heap.size) (e:=9) (size:=1) w #[] 0 (Nat.le_refl _) (by unfold maxLen; omega) rfl
 have hbel0:Below w.heap.size w (w.alloc (.cells #[] 9)):=(Below.refl _ _).alloc (Nat.le_refl _) _
 by_cases h0:s.size=0
 ·have hse:s=⟨#[]⟩:=by
   have:s.data.toList=[]:=List.eq_nil_of_length_eq_zero (by rw[data_len]; exact h0)
   obtain⟨⟨l⟩⟩:=s; simp at this; subst this; rfl
  subst hse
  have HO:=hide hown0
  clear hown0 h0
  go_enter Tryz.func93,Tryz.ntmps93
  go_wp2
  go_ret2
  exact⟨_,rfl,uh HO,hbel0⟩
 ·have hne:s.toList.isEmpty=false:=by
   rw[Lib.toList_data,List.isEmpty_eq_false_iff]; intro e; exact h0 (by rw[← data_len,e]; rfl)
  have h0':0 < s.size:=by omega
  have hdl:=data_len s
  by_cases h47:(s[0].toNat:Int)=47
  ·have t1:((s[0].toNat:Int) != 47)=false:=by simpa using h47
   have HP:Hid (ptoks s.data.toList=toks (s.data.toList.drop 1)):=ptoks_cons (by omega) (by show s[0].toNat=47; omega)
   have HO:=hide hown0
   clear hown0 h47
   generalize hl:s.data.toList=l at *
   have HL:=hide hl
   clear hl
   go_enter Tryz.func93,Tryz.ntmps93
   go_wp2
   go_loopw [4,5,6] (fun v fr i wr=>∃ (k f:Nat) (done:List (List UInt8)),1≤k∧k≤s.size+1∧1≤f∧f≤k∧i = .int .i64 k∧fr = .int .i64 f∧done.length≤k∧OT wr w.heap.size v done∧Below w.heap.size w wr∧(k≤s.size→NoSl l f k∧TkAt l f done)∧(k=s.size+1→toks (l.drop 1)=some done)) (fun _ _ i _=>s.size+1 - (intOf i).toNat)
   case atStart=>exact⟨1,1,[],by omega,by omega,by omega,by omega,rfl,rfl,by simp,uh HO,hbel0,fun _=>⟨NoSl.none _ _,by simp[TkAt]⟩,fun h=>by omega⟩
   case round=>
    obtain⟨k,f,done,hk1,hk2,hf1,hfk,rfl,rfl,hdl2,hown,hb,hA,hZ⟩:=hrel
    have hwsz:=hb.size
    have HA:=hide hA
    have HZ:=hide hZ
    clear hA hZ HO
    by_cases hks:k≤s.size
    ·by_cases hke:k=s.size
     ·have hA:=uh HA hks
      have hkl:k=l.length:=by omega
      have hlast:NoSl l f l.length:=by rw[← hkl]; exact hA.1
      subst hke
      have t2:((s.size:Int) == (s.size:Int))=true:=by simp
      have hsz:(s.extract f s.size).size≤1048576:=by rw[← data_len,extract_toList,List.length_take,List.length_drop,data_len]; omega
      have hex:=extract_toList s f s.size
      rw[uh HL] at hex
      have C:=specTok_walk (s.extract f s.size) wr hsz
      rw[hex] at C
      cases ho:unesc ((l.drop f).take (s.size - f)) with
      | none=>
       rw[ho,tokRes_none] at C
       have HC:=hide C
       have HF:Hid (toks (l.drop 1)=none):=by have:=hA.2.lastBad hlast (by rw[← hkl]; exact ho); exact this
       clear C ho hex hA hlast hkl HA HZ
       go_wp2_with fail
       refine (uh HC).mono ?_
       rintro e w1 ⟨rfl,hb1⟩
       have B1:=hb.trans (hb1.mono hwsz)
       have hown1:=World.ownsRow_lit (base:=w.heap.size) (e:=9) (size:=1) w1 #[] 0 B1.size (by unfold maxLen; omega) rfl
       have HO1:=hide hown1
       clear hown hb1 HC hown1
       go_wp2
       go_ret2
       exact⟨_,by rw[uh HP,uh HF]; rfl,by rw[uh HP,uh HF]; exact uh HO1,B1.alloc B1.size _⟩
      | some t=>
       rw[ho,tokRes_some] at C
       have HC:=hide C
       have HF:Hid (toks (l.drop 1)=some (done++[t])):=by have:=hA.2.last hlast (by rw[← hkl]; exact ho); exact this
       clear hA hlast hkl HA HZ C ho hex
       go_wp2_with fail
       refine (uh HC).mono ?_
       rintro e w1 ⟨rfl,hb1⟩
       have B1:=hb.trans (hb1.mono hwsz)
       have own1:=own_below hown hb1
       have hw1:=B1.size
       clear hown hb1 HC
       go_wp2_with (at_builtin; (refine wpList_append_own _ rfl (.tmp 44) (.tmp 46) 43 rfl w.heap.size 9 i0 (.string ByteArray.empty) 1 16 Tryz.underlying43 hi hz0 hz1 hz2 rfl (by decide) _ _ _ rfl (own1.alloc _) ⟨w1.heap.size,0,none⟩ 1 1 [.string (baT t)] rfl rfl (lit1 _ _ _) (one_tok _) (by unfold maxLen; omega) (by omega) (by simp; omega) ?_))
       intro v2 w2 hown2 hgrow2 _
       have B2:Below w.heap.size w w2:=(B1.alloc hw1 _).grown hgrow2 (by simp; omega) (fun k hk=>(own1.lt k hk).1)
       have own2:=OT.step (t:=t) hown2
       clear hown2 hgrow2 own1
       go_wp2
       go_roundw
       case rel=>exact⟨s.size+1,s.size+1,done++[t],by omega,by omega,by omega,by omega,by go_num,by go_num,by simp; omega,own2,B2,fun h=>by omega,fun _=>uh HF⟩
       case measure=>simp[intOf]
     ·have hlt:k < s.size:=by omega
      have t2:((k:Int) == (s.size:Int))=false:=by simp; omega
      by_cases hc:(s[k].toNat:Int)=47
      ·have t3:((s[k].toNat:Int) == 47)=true:=by simpa using hc
       have hA:=uh HA hks
       have hcl:k < l.length:=by omega
       have hck : l[k].toNat = 47 := by have e : l[k].toNat = s[k].toNat := by (have e := uh HL; subst e; rfl)
                                        omega
       have hsz:(s.extract f k).size≤1048576:=by rw[← data_len,extract_toList,List.length_take,List.length_drop,data_len]; omega
       have hex:=extract_toList s f k
       rw[uh HL] at hex
       have C:=specTok_walk (s.extract f k) wr hsz
       rw[hex] at C
       cases ho:unesc ((l.drop f).take (k - f)) with
       | none=>
        rw[ho,tokRes_none] at C
        have HC:=hide C
        have HF:Hid (toks (l.drop 1)=none):=hA.2.cutBad hA.1 hfk hcl hck ho
        clear C ho hex
        go_wp2_with fail
        refine (uh HC).mono ?_
        rintro e w1 ⟨rfl,hb1⟩
        have B1:=hb.trans (hb1.mono hwsz)
        have hown1:=World.ownsRow_lit (base:=w.heap.size) (e:=9) (size:=1) w1 #[] 0 B1.size (by unfold maxLen; omega) rfl
        have HO1:=hide hown1
        clear hown hb1 HC hown1
        go_wp2
        go_ret2
        exact⟨_,by rw[uh HP,uh HF]; rfl,by rw[uh HP,uh HF]; exact uh HO1,B1.alloc B1.size _⟩
       | some t=>
        rw[ho,tokRes_some] at C
        have HC:=hide C
        have HF:=hide (hA.2.cut hA.1 hfk hcl hck ho)
        clear hA hcl hck hc HA HZ
        clear C ho hex
        go_wp2_with fail
        refine (uh HC).mono ?_
        rintro e w1 ⟨rfl,hb1⟩
        have B1:=hb.trans (hb1.mono hwsz)
        have own1:=own_below hown hb1
        have hw1:=B1.size
        clear hown hb1 HC
        go_wp2_with (at_builtin; refine wpList_append_own _ rfl (.tmp 44) (.tmp 46) 43 rfl w.heap.size 9 i0 (.string ByteArray.empty) 1 16 Tryz.underlying43 hi hz0 hz1 hz2 rfl (by decide) _ _ _ rfl (own1.alloc _) ⟨w1.heap.size,0,none⟩ 1 1 [.string (baT t)] rfl rfl (lit1 _ _ _) (one_tok _) (by unfold maxLen; omega) (by omega) (by simp; omega) ?_)
        intro v2 w2 hown2 hgrow2 _
        have B2:Below w.heap.size w w2:=(B1.alloc hw1 _).grown hgrow2 (by simp; omega) (fun k hk=>(own1.lt k hk).1)
        have own2:=OT.step (t:=t) hown2
        clear hown2 hgrow2 own1
        go_wp2
        go_roundw
        case rel=>exact⟨k+1,k+1,done++[t],by omega,by omega,by omega,by omega,by go_num,by go_num,by simp; omega,own2,B2,fun _=>⟨NoSl.none _ _,uh HF⟩,fun h=>by omega⟩
        case measure=>simp[intOf]; omega
      ·have t3:((s[k].toNat:Int) == 47)=false:=by simpa using hc
       go_wp2
       go_roundw
       case rel=>
        have ⟨hn,ht⟩:=uh HA hks
        have hcl:k < l.length:=by omega
        have hck:l[k].toNat=s[k].toNat:=by have e:=uh HL; subst e; rfl
        exact⟨k+1,f,done,by omega,by omega,hf1,by omega,by go_num,rfl,by omega,hown,hb,fun _=>⟨hn.snoc hcl (by omega),ht⟩,fun h=>by omega⟩
       case measure=>simp[intOf]; omega
    ·have HF:=hide (uh HZ (by omega))
     go_wp2
     go_ret2
     exact⟨_,by rw[uh HP,uh HF]; rfl,by rw[uh HP,uh HF]; exact hown,hb⟩
  ·have t1:((s[0].toNat:Int) != 47)=true:=by simpa using h47
   have HP:Hid (ptoks s.data.toList=none):=ptoks_bad (by omega) (fun e=>h47 (by show ((s[0].toNat:Int))=47; have:s.data.toList[0].toNat=s[0].toNat:=rfl; omega))
   have HO:=hide hown0
   clear hown0 h47
   go_enter Tryz.func93,Tryz.ntmps93
   go_wp2
   go_ret2
   exact⟨_,by rw[uh HP]; rfl,by rw[uh HP]; exact uh HO,hbel0⟩
theorem infoBld:(Tryz.prog.info? 167).map (·.size)=some 2:=by kernel_rfl
theorem liesBld:liesAt Tryz.prog Tryz.prog.depth 167 (2 / Tryz.prog.cellsOf 167) 0 167 1=true:=by kernel_rfl
theorem infoByte:(Tryz.prog.info? 5).map (fun i=>(i.zero,i.size,i.bytes))=some (some (.int .u8 0),1,1):=by kernel_rfl
theorem check_used (b:Nat) (w:World) (h0:w.cell? ⟨b,0,none⟩=some (.pointer (some ⟨b,0,none⟩))) :
  Calls Tryz.prog 214 #[.pointer (some ⟨b,0,none⟩)] w fun e w'=>e = .returned (.tuple #[])∧w'=w:=by
 obtain⟨j,hj,_⟩:=Option.map_eq_some_iff.1 infoBld
 go_enter Tryz.func214,Tryz.ntmps214
 go_wp2
 rw[Lib.run_neq_ptr_same w _ Tryz.underlying165 hj]
 go_wp2
 go_end0
 exact⟨rfl,rfl⟩
theorem check_fresh (b:Nat) (w:World) (h0:w.cell? ⟨b,0,none⟩=some (.pointer none)) (hsh:w.shape? b=some (167,2)) (hfz:w.frozen? ⟨b,0,none⟩=false) :
  Calls Tryz.prog 214 #[.pointer (some ⟨b,0,none⟩)] w fun e w'=>e = .returned (.tuple #[])∧w'=w.setCell ⟨b,0,none⟩ (.pointer (some ⟨b,0,none⟩)):=by
 obtain⟨j,hj,hjs⟩:=Option.map_eq_some_iff.1 infoBld
 go_enter Tryz.func214,Tryz.ntmps214
 go_wp2
 rw[Lib.run_to_unsafe w ⟨b,0,none⟩ Tryz.underlying165 Tryz.underlying211 hj (by rw[hjs]; decide) hsh (Nat.zero_lt_succ 1)]
 simp only[Result.andThen]
 rw[Oper.upon_value]
 go_wp2
 rw[run_callFunc_extern Tryz.func241 (by kernel_rfl) (by kernel_rfl) (by kernel_rfl) (e:=Extern.AbiNoEscape.same) (by kernel_rfl)]
 rw[Lib.run_noEscape]
 simp only[Result.andThen]
 rw[Oper.upon_value]
 go_wp2
 rw[Lib.run_from_unsafe w ⟨b,0,none⟩ Tryz.underlying211 Tryz.underlying165 hj hsh liesBld]
 simp only[Result.andThen]
 rw[Oper.upon_value]
 go_wp2
 go_end0
 exact⟨rfl,rfl⟩
theorem check (B b:Nat) (bs:List Value) (w:World) (h:Lib.IsBuilder 167 5 B b bs w) :
  Calls Tryz.prog 214 #[.pointer (some ⟨b,0,none⟩)] w fun e w'=>e = .returned (.tuple #[])∧(Lib.BuilderAt 167 5 B b (.pointer (some ⟨b,0,none⟩)) bs w'∧Below B w w'):=by
 rcases h with h | h
 ·refine (check_fresh b w h.cell0 h.shape h.frozen0).mono ?_
  rintro e w' ⟨rfl,rfl⟩
  exact⟨rfl,h.used _,(Below.refl B w).setCell (p:=⟨b,0,none⟩) h.1 _⟩
 ·refine (check_used b w h.cell0).mono ?_
  rintro e w' ⟨rfl,rfl⟩
  exact⟨rfl,h,Below.refl B _⟩
theorem writeByte (B b:Nat) (bs:List Value) (c:Int) (w:World) (h:Lib.IsBuilder 167 5 B b bs w) (hlen:bs.length+1≤140737488355328) (hBw:B≤w.heap.size) :
  Calls Tryz.prog 188 #[.pointer (some ⟨b,0,none⟩),.int .u8 c] w fun e w'=>e = .returned .nilIface∧(Lib.BuilderAt 167 5 B b (.pointer (some ⟨b,0,none⟩)) (bs++[.int .u8 c]) w'∧Below B w w'):=by
 obtain⟨i0,hi,hz0,hz1,hz2⟩:=info_parts infoByte
 go_enter Tryz.func188,Tryz.ntmps188
 go_wp2_with (go_at_call 214; refine (check B b bs _ h).mono ?_)
 rintro e w1 ⟨rfl,h1,hb1⟩
 obtain⟨hB,v,hbk,hown,hne⟩:=h1
 have c0:w1.cell? ⟨b,0,none⟩=some (.pointer (some ⟨b,0,none⟩)):=by rw[Lib.cell_of_heap hbk]; rfl
 have c1:w1.cell? ⟨b,1,none⟩=some v:=by rw[Lib.cell_of_heap hbk]; rfl
 go_wp2_with (at_builtin; refine wpList_append_own _ rfl _ _ 37 rfl B 5 i0 (.int .u8 0) 1 1 Tryz.underlying37 hi hz0 hz1 hz2 rfl (by decide) _ _ _ rfl (hown.alloc _) ⟨w1.heap.size,0,none⟩ 1 1 [.int .u8 c] rfl rfl ?c1 ?c2 ?c3 ?c4 ?c5 ?_)
 case c1=>
  intro j u hj
  match j,hj with
  | 0,hj=>simp at hj; subst hj; simp[Addr.add]
 case c2=>intro u hu; simp at hu; subst hu; rfl
 case c3=>unfold maxLen; omega
 case c4=>omega
 case c5=>have:=hb1.size; simp; omega
 intro v' w2 hown' hgrow _
 have hlt:b < w1.heap.size:=by
  rcases Nat.lt_or_ge b w1.heap.size with h' | h'
  ·exact h'
  ·simp[Array.getElem?_eq_none h'] at hbk
 have hb2:w2.heap[b]?=some (.cells #[.pointer (some ⟨b,0,none⟩),v] 167 (0,0)):=by
  rw[hgrow.block b (by simp; omega) (fun e=>hne e.symm),Lib.alloc_old w1 _ b hlt]
  exact hbk
 have d0:w2.cell? ⟨b,0,none⟩=some (.pointer (some ⟨b,0,none⟩)):=by rw[Lib.cell_of_heap hb2]; rfl
 have d1:w2.cell? ⟨b,1,none⟩=some v:=by rw[Lib.cell_of_heap hb2]; rfl
 have f1:w2.frozen? ⟨b,1,none⟩=false:=Lib.frozen_of_heap hb2 1
 obtain⟨g,cap,rfl⟩ : ∃ g cap,v' = .slice (some ⟨g,0,none⟩) (bs.length+1) cap:=by
  rcases hown'.2 with ⟨_,h0⟩ | ⟨g,cap,cur,hv,_⟩
  ·omega
  ·exact⟨g,cap,hv⟩
 go_wp2
 go_ret
 refine⟨rfl,?_,?_⟩
 ·exact Lib.BuilderAt.put (T:=167) (e:=5) hB hb2 (bs':=bs++[.int .u8 c]) (by simpa using hown') (by decide)
 ·exact ((hb1.alloc (by have:=hb1.size; omega) _).grown hgrow (by have:=hb1.size; simp; omega) (fun k hk=>(hown.lt k hk).1)).setCell (p:=⟨b,1,none⟩) hB _
open Go.Shelf in
def ren169:Go.Shelf.Ren:=⟨fun | 169=>101 | n=>n,fun | 70=>165 | 9=>9 | 0=>0 | 72=>167 | 37=>37 | 127=>224 | 3=>3 | 5=>5 | n=>n,fun | n=>n⟩
theorem lays169:Go.Proofs.Lays.n169 Tryz.prog ren169:={
 mixed:=by kernel_rfl
 f169:=Tryz.func101.trans (congrArg some (by kernel_rfl))
 t0:=Tryz.underlying0
 a0:=Tryz.isAgg0
 z0:=Tryz.sizeOf0
 v0:=Tryz.zeroValue0
 t3:=Tryz.underlying3
 a3:=Tryz.isAgg3
 z3:=Tryz.sizeOf3
 v3:=Tryz.zeroValue3
 t9:=Tryz.underlying9
 a9:=Tryz.isAgg9
 z9:=Tryz.sizeOf9
 v9:=Tryz.zeroValue9
 t37:=Tryz.underlying37
 a37:=Tryz.isAgg37
 z37:=Tryz.sizeOf37
 v37:=Tryz.zeroValue37
 t70:=Tryz.underlying165
 a70:=Tryz.isAgg165
 z70:=Tryz.sizeOf165
 v70:=Tryz.zeroValue165
 t72:=Tryz.underlying167
 a72:=Tryz.isAgg167
 z72:=Tryz.sizeOf167
 v72:=Tryz.zeroValue167
 t127:=Tryz.underlying224
 a127:=Tryz.isAgg224
 z127:=Tryz.sizeOf224
 v127:=Tryz.zeroValue224 }
theorem extra169:Builder.Extra Tryz.prog ren169:={
 sizeBuilder:=by kernel_rfl
 liesBuilder:=by kernel_rfl
 t5:=Tryz.underlying5
 a5:=Tryz.isAgg5
 z5:=Tryz.sizeOf5
 v5:=Tryz.zeroValue5
 infoByte:=by kernel_rfl
 cellsByte:=by kernel_rfl
 sizeByte:=by kernel_rfl
 neB5:=by decide }
theorem bldString (B b:Nat) (l:List UInt8) (w:World) (h:Lib.IsBuilder 167 5 B b (Lib.byteCells l) w) (hBw:B≤w.heap.size) :
  Calls Tryz.prog 101 #[.pointer (some ⟨b,0,none⟩)] w fun e w'=>e = .returned (.string ⟨l.toArray⟩)∧Below B w w':=Any.Builder_String_any lays169 extra169 B b l w h hBw
abbrev IsB (B b:Nat) (l:List UInt8) (w:World) : Prop:=Lib.IsBuilder 167 5 B b (Lib.byteCells l) w
theorem IsB.byte {B b:Nat} {l:List UInt8} {c:UInt8} {w:World} {n:Int} (hn:n=(c.toNat:Int)) (h:Lib.BuilderAt 167 5 B b (.pointer (some ⟨b,0,none⟩)) (Lib.byteCells l++[.int .u8 n]) w) : IsB B b (l++[c]) w:=by
 subst hn; exact Or.inr (by rw[Lib.byteCells_append]; exact h)
theorem IsB.str {B b:Nat} {l:List UInt8} {s:ByteArray} {m:List UInt8} {w:World} (hm:m=s.data.toList) (h:Lib.BuilderAt 167 5 B b (.pointer (some ⟨b,0,none⟩)) (Lib.byteCells l++Lib.strCells s) w) : IsB B b (l++m) w:=by
 subst hm; exact Or.inr (by rw[Lib.byteCells_append]; exact h)
theorem IsB.cells {B b:Nat} {l m:List UInt8} {xs:List Value} {w:World} (hx:xs=Lib.byteCells m) (h:Lib.BuilderAt 167 5 B b (.pointer (some ⟨b,0,none⟩)) (Lib.byteCells l++xs) w) : IsB B b (l++m) w:=by
 subst hx; exact Or.inr (by rw[Lib.byteCells_append]; exact h)
theorem implTok_walk (s:ByteArray) (w:World) (hs:s.size≤1048576) :
  Calls Tryz.prog 154 #[.string s] w fun e w'=>e = .returned (tokRes (unesc s.data.toList))∧Below w.heap.size w w':=by
 go_enter Tryz.func154,Tryz.ntmps154
 go_wp2
 go_loopw [5] (fun i wr=>∃ (j:Nat) (acc:List UInt8),j≤s.size∧i = .int .i64 j∧IsB w.heap.size w.heap.size acc wr∧Below w.heap.size w wr∧(Lib.byteCells acc).length≤j∧UnAt s.data.toList j acc) (fun i _=>s.size - (intOf i).toNat)
 case atStart=>exact⟨0,[],Nat.zero_le _,rfl,Lib.fresh_isBuilder _ _ w,(Below.refl _ _).alloc (Nat.le_refl _) _,Nat.le_refl _,UnAt.start _⟩
 case round=>
  obtain⟨j,acc,hj,rfl,hI,hb,hal,hun⟩:=hrel
  have hwsz:=hb.size
  have HU:=hide hun
  clear hun
  by_cases hjs:j < s.size
  ·have hd:=drop_at s j hjs
   by_cases h126:(s[j].toNat:Int)=126
   ·have t1:((s[j].toNat:Int) != 126)=false:=by simpa using h126
    by_cases h2:j+1 < s.size
    ·have hd2:=drop_at s (j+1) h2
     have t0:((j:Int)+1 == (s.size:Int))=false:=by simp; omega
     by_cases h48:(s[j+1].toNat:Int)=48
     ·have t2:((s[j+1].toNat:Int) == 48)=true:=by simpa using h48
      have HS:Hid (unesc (s.data.toList.drop j)=(unesc (s.data.toList.drop (j+2))).map ([126]++·)):=by show _=_; rw[hd,hd2,unesc_0 _ h126 h48]
      clear h126 h48 hd hd2
      go_wp2_with (go_at_call 188; refine (writeByte w.heap.size w.heap.size _ _ _ hI (by omega) hwsz).mono ?_)
      rintro e w2 ⟨rfl,h2,hb2⟩
      have h2':=IsB.byte (c:=126) rfl h2
      clear h2 hI
      go_wp2
      go_roundw
      case rel=>exact⟨j+2,acc++[126],by omega,by go_num,h2',hb.trans hb2,by simp[Lib.byteCells] at hal ⊢; omega,(uh HU).step (uh HS)⟩
      case measure=>simp[intOf]; omega
     ·by_cases h49:(s[j+1].toNat:Int)=49
      ·have t2:((s[j+1].toNat:Int) == 48)=false:=by simpa using h48
       have t3:((s[j+1].toNat:Int) == 49)=true:=by simpa using h49
       have HS:Hid (unesc (s.data.toList.drop j)=(unesc (s.data.toList.drop (j+2))).map ([47]++·)):=by show _=_; rw[hd,hd2,unesc_1 _ h126 h49]
       clear h126 h48 h49 hd hd2
       go_wp2_with (go_at_call 188; refine (writeByte w.heap.size w.heap.size _ _ _ hI (by omega) hwsz).mono ?_)
       rintro e w2 ⟨rfl,h2,hb2⟩
       have h2':=IsB.byte (c:=47) rfl h2
       clear h2 hI
       go_wp2
       go_roundw
       case rel=>exact⟨j+2,acc++[47],by omega,by go_num,h2',hb.trans hb2,by simp[Lib.byteCells] at hal ⊢; omega,(uh HU).step (uh HS)⟩
       case measure=>simp[intOf]; omega
      ·have t2:((s[j+1].toNat:Int) == 48)=false:=by simpa using h48
       have t3:((s[j+1].toNat:Int) == 49)=false:=by simpa using h49
       have HF:=hide ((uh HU).bad (by rw[hd,hd2,unesc_bad _ h126 h48 h49]))
       clear h126 h48 h49 hd hd2 hI
       go_wp2
       go_ret2
       exact⟨by rw[uh HF]; rfl,hb⟩
    ·have t0:((j:Int)+1 == (s.size:Int))=true:=by simp; omega
     have HF:=hide ((uh HU).bad (by rw[hd,drop_end s (j+1) h2,unesc_end h126]))
     clear h126 hd hI
     go_wp2
     go_ret2
     exact⟨by rw[uh HF]; rfl,hb⟩
   ·have t1:((s[j].toNat:Int) != 126)=true:=by simpa using h126
    have HS:Hid (unesc (s.data.toList.drop j)=(unesc (s.data.toList.drop (j+1))).map ([s[j]]++·)):=by show _=_; rw[hd,unesc_lit _ h126]
    clear h126 hd
    go_wp2_with (go_at_call 188; refine (writeByte w.heap.size w.heap.size _ _ _ hI (by omega) hwsz).mono ?_)
    rintro e w2 ⟨rfl,h2,hb2⟩
    have h2':=IsB.byte (c:=s[j]) rfl h2
    clear h2 hI
    go_wp2
    go_roundw
    case rel=>exact⟨j+1,acc++[s[j]],by omega,by go_num,h2',hb.trans hb2,by simp[Lib.byteCells] at hal ⊢; omega,(uh HU).step (uh HS)⟩
    case measure=>simp[intOf]; omega
  ·have HF:=hide ((uh HU).fin (by rw[data_len]; omega))
   go_wp2_with (go_at_call 101; refine (bldString w.heap.size w.heap.size acc _ hI hwsz).mono ?_)
   rintro e w2 ⟨rfl,hb2⟩
   clear hI
   go_wp2
   go_ret2
   exact⟨by rw[uh HF]; rfl,hb.trans hb2⟩
def Tabs (w:World) : Prop:=Lib.Utf8Tabs 1 2 w
theorem Tabs.below {w w':World} (h:Tabs w) (hb:Below w.heap.size w w') : Tabs w':=by
 refine⟨fun c hc=>?_,fun i hi=>?_⟩
 ·have:=h.1 c hc
  exact (hb.cell (World.block_lt_of_cell? _ _ this)).trans this
 ·have h2:=h.2 i hi
  exact⟨(hb.cell (World.block_lt_of_cell? _ _ h2.1)).trans h2.1,(hb.cell (World.block_lt_of_cell? _ _ h2.2)).trans h2.2⟩
def TabsB (B:Nat) (w:World) : Prop:=∃ w0:World,w0.heap.size≤B∧Tabs w0∧Below w0.heap.size w0 w
theorem TabsB.of {w:World} (h:Tabs w) : TabsB w.heap.size w:=⟨w,Nat.le_refl _,h,Below.refl _ _⟩
theorem TabsB.tabs {B:Nat} {w:World} (h:TabsB B w) : Tabs w:=by
 obtain⟨w0,_,t,b⟩:=h
 exact t.below b
theorem TabsB.next {B B':Nat} {w w':World} (h:TabsB B w) (hb:Below B' w w') (hB:B≤B') : TabsB B w':=by
 obtain⟨w0,h0,t,b⟩:=h
 exact⟨w0,h0,t,b.trans (hb.mono (by omega))⟩
theorem append_where1 {P:Program} (w:World) {base:Nat} {t ty e:TypeId} {i:TypeInfo} {z:Value} (ht:P.underlying t=some (.slice e)) (hi:P.info? e=some i) (hz:i.zero=some z)
  {v:Value} {n:Nat} {xs:List Value} (hown:w.ownsRow base e i.size v n xs) {a:Addr} {m c:Nat} {news:List Value} (hl:news.length=m*i.size) (hnews:∀ j u,news[j]?=some u→w.cell? (a.add j)=some u) (h1:∀ u∈news,u.oneCell'=true)
  (h0:0 < m) (h63:n+m≤maxLen) (hbytes:(n+m)*i.bytes≤140737488355328) {v':Value} {w':World} (hr:(Builtin.append_ #[t,t] ty #[v,.slice (some a) m c]).run P w = .ok v' w') :
  v'.ownBlock=v.ownBlock∨v'.ownBlock=some w.heap.size:=by
 unfold maxLen at h63
 rcases hown.2 with ⟨hv,hn⟩ | ⟨g,cap,cur,hv,_,hg,_,_,hcs,_⟩
 ·subst hv; subst hn
  have hx:=run_append_nil (P:=P) w t ty e i z ht hi hz a m c news hl hnews h0 (by omega) (by simp only[Nat.zero_add] at hbytes; omega)
  rw[hx] at hr
  injection hr with hr1 _
  subst hr1
  exact .inr rfl
 ·subst hv
  by_cases hroom:n+m≤cap
  ·have hx:=run_append_room (P:=P) w t ty e i ht hi g n cap cur hg a m c news hl hnews h1 hroom (by rw[hl,hcs,← Nat.add_mul]; exact Nat.mul_le_mul_right _ hroom)
   rw[hx] at hr
   injection hr with hr1 _
   subst hr1
   exact .inl rfl
  ·have hx:=run_append_grow (P:=P) w t ty e i z ht hi hz ⟨g,0,none⟩ n cap xs hown.1 (hown.cells (g:=g) rfl) a m c news hl hnews (by omega) (by omega) (growslice_fits (by omega) hbytes)
   rw[hx] at hr
   injection hr with hr1 _
   subst hr1
   exact .inr rfl
theorem wpList_append_one {e t:TypeId} (ht:Tryz.prog.underlying t=some (.slice e)) {z:Value} {bytes:Nat}
  (hinfo:(Tryz.prog.info? e).map (fun i=>(i.zero,i.size,i.bytes))=some (some z,1,bytes)) (hzs:z.cells.size=1) (hby:bytes≤100)
  {w:World} {ops:Array Oper} {rest:List Oper} {o:Oper} {a:Act} {Q:Exit→Act→World→Prop} (hg:o.guard=none) (s x:Operand)
  (ho:o.op = .call { callee:=.builtin .append,args:=#[s,x],argTypes:=#[t,t] }) {B:Nat} {v:Value} {xs:List Value} {n:Nat} (hs:a.eval s=v)
  (hown:w.ownsRow B e 1 v n xs) {y:Value} (hy:y.oneCell'=true) {g:Nat} (hx:a.eval x = .slice (some ⟨g,0,none⟩) 1 1)
  (hcell:w.cell? ⟨g,0,none⟩=some y) (hB:B≤w.heap.size) (hl:n≤40000000)
  (hK:∀ v' w',w'.ownsRow B e 1 v' (n+1) (xs++[y])→w.grownBy w' v.ownBlock→(v'.ownBlock=v.ownBlock∨v'.ownBlock=some w.heap.size)→wpList Tryz.prog ops Q rest (a.put o.dst v') w') :
  wpList Tryz.prog ops Q (o :: rest) a w:=by
 obtain⟨i0,hi,hz0,hz1,hz2⟩:=info_parts hinfo
 have hby2:(n+1)*bytes≤(n+1)*100:=Nat.mul_le_mul_left _ hby
 have hc:∀ (j:Nat) (u:Value),[y][j]?=some u→w.cell? ((⟨g,0,none⟩ : Addr).add j)=some u:=fun j u hu=>by
  cases j with
  | zero=>simp at hu; subst hu; simpa [Addr.add] using hcell
  | succ j=>simp at hu
 have h1:∀ u∈[y],u.oneCell'=true:=fun u hu=>by simp at hu; subst hu; exact hy
 obtain⟨v',w',hr,h2,h3,_⟩:=run_append_own (P:=Tryz.prog) w B t o.type e i0 z 1 bytes ht hi hz0 hz1 hz2 hzs (by decide) v n xs hown ⟨g,0,none⟩ 1 1 [y] rfl hc h1 (by unfold maxLen; omega) (by omega) hB
 have h4:=append_where1 (P:=Tryz.prog) w (z:=z) ht hi hz0 (by rw[hz1]; exact hown) (by rw[hz1]; rfl) hc h1 (by omega) (by unfold maxLen; omega) (by rw[hz2]; omega) hr
 exact Lib.wpList_append_run w hg s x t t ho v _ hs hx v' w' hr (hK v' w' h2 h3 h4)
end Go.Proofs.YtocnekbedcnmgaaGreatDoor
