import Derived.Shelf.Unicode.ValidAny
import Derived.Lib.LaidU8T
import Derived.Shelf.Small.Utf8
import Derived.Shelf.Strings.BuilderRune
import Derived.Shelf.Utf8.AppendRune
import Derived.Shelf.Utf8.AppendRunePlain
import Derived.Shelf.Strconv.Itoa4
import Derived.Shelf.Strconv.ErrVarParseInt
import Derived.Shelf.Strings.Shaped
import Derived.Shelf.Strings.SplitShaped
import Derived.Shelf.Slices.CompactS
import Derived.Shelf.SortM.Plain
import Derived.Shelf.SortM.SortNone
import Derived.Shelf.Strings.SlTrimAscii
import Derived.Test.YtgoafoojaceadaaGreatDoorBd1
import Derived.Lib.RuneCount
set_option maxRecDepth 100000
set_option maxHeartbeats 8000000
open Go renaming Calls->δ,Value->ω
open Go.Ending renaming returned->ε
open Go.IntKind renaming i64->κ
open Go.Lib renaming byteCells->Δ,countB->Ν,runeCells->Ε,toList_data->Ο,trimPrefix->Ρ
open Go.Obj renaming cells->χ
open Go.Value renaming bool->θ,iface->φ,int->ι,pointer->π,slice->ς,string->Ξ,string->σ,tuple->τ
open Go.World renaming ownsRow_nil->Ζ
open _root_.Bool renaming false->ζ,not_eq_true->Ι,true->ξ
open _root_.ByteArray renaming empty->Α
open _root_.List renaming any_eq_false->Η,any_eq_true->Θ,any_map->Γ,drop_eq_getElem_cons->Μ,getD->Κ,getElem_of_mem->Β
open _root_.Option renaming none->ν,some->η
namespace Go.Proofs
open Go.Shelf
def Tryz.lays103_ren:Go.Shelf.Ren:=⟨fun | 103=>158 | 210=>200 | 206=>233 | n=>n,fun | 9=>9 | 4=>4 | 24=>150 | 3=>3 | n=>n,fun | n=>n⟩
theorem Tryz.lays103:Go.Proofs.Lays.n103 Tryz.prog Tryz.lays103_ren:=by
 constructor
 all_goals repeat' first | kernel_rfl |(intro _;kernel_rfl) | constructor
open Go.RowKit in
theorem Tryz.strings_CutPrefix(s p:ByteArray)(w:World):
  δ Tryz.prog 158 #[.string s,.string p] w fun e w'=>e=ε (τ #[σ ⟨(Ρ s.data.toList p.data.toList).toArray⟩,θ (Lib.hasPrefix s.data.toList p.data.toList)])/\w'=w:=Any.strings_CutPrefix Tryz.lays103 s p w
def Tryz.lays242_ren:Go.Shelf.Ren:=⟨fun | 242=>237 | 278=>255 | n=>n,fun | 37=>22 | 21=>21 | 51=>244 | 4=>4 | 5=>5 | 46=>181 | n=>n,fun | n=>n⟩
theorem Tryz.lays242:Go.Proofs.Lays.n242 Tryz.prog Tryz.lays242_ren:=by
 constructor
 all_goals repeat' first | kernel_rfl |(intro _;kernel_rfl) | constructor
open Go.RowKit in
theorem Tryz.utf8_AppendRune_plain(B:Nat)(v:ω)(n:Nat)(xs:List ω)(r:Int)(hr0: -2147483648<=r)(hr1:r<=2147483647)(w:World)(hown:w.ownsRow B 5 1 v n xs)(hlen:n+4<=140737488355328)(hBw:B<=w.heap.size):
  δ Tryz.prog 237 #[v,.int .i32 r] w fun e w'=>∃ v',e=ε v'/\w'.ownsRow B 5 1 v' (n+(Ε r).length) (xs++Ε r)/\∃ o,(w.alloc o).grownBy w' v.ownBlock:=Any.utf8_AppendRune_plain Tryz.lays242 (by kernel_rfl) B v n xs r hr0 hr1 w hown hlen hBw
def Tryz.laysM146_ren:Go.Shelf.Ren:=⟨fun | 146=>140 | 221=>190 | 268=>223 | 138=>224 | 143=>225 | 195=>249 | 197=>239 | 218=>250 | 219=>251 | 260=>257 | 217=>268 | 225=>269 | 224=>270 | 267=>271 | 266=>282 | 314=>283 | n=>n,fun | 9=>9 | 31=>35 | 3=>3 | 4=>4 | 0=>0 | 105=>317 | 21=>21 | 5=>5 | 46=>181 | 119=>341 | 139=>344 | 138=>343 | 146=>353 | 51=>244 | n=>n,fun | 1=>1 | 3=>2 | 4=>3 | n=>n⟩
theorem Tryz.laysM146:Go.Proofs.LaysM.n146 Tryz.prog Tryz.laysM146_ren:=by
 constructor
 case s1_3=>exact fun w h=>Go.Proofs.cell_of_shapedOpen_int (zero:=#[ι κ 0]) (t:=3) h (of_decide_eq_true (by kernel_rfl)) (by kernel_rfl) rfl (by kernel_rfl) (by kernel_rfl) Tryz.underlying3
 all_goals repeat' first | kernel_rfl |(intro _;kernel_rfl) | constructor
open Go.RowKit Go.Lib in
theorem Tryz.strings_Split_shaped(s sep:ByteArray)(w:World)(h:w.ShapedOpen Tryz.prog)(hs:s.size<4294967281)(h1:1<=sep.size):
  δ Tryz.prog 140 #[.string s,.string sep] w fun e w'=>
   e=ε (ς (η ⟨w.heap.size,0,ν⟩) (Ν s sep+1) (Ν s sep+1))/\w'=w.alloc (χ ((Lib.splitB sep 0 (Ν s sep) s).map Ξ).toArray 9):=Any.strings_Split_shaped Tryz.laysM146 s sep w h hs h1
def Tryz.laysValid_ren:Go.Shelf.Ren:=⟨fun | 196=>264 | 259=>280 | n=>n,fun | 9=>9 | 4=>4 | 3=>3 | 5=>5 | 12=>12 | 119=>341 | 0=>0 | 46=>181 | 139=>344 | 138=>343 | 53=>246 | n=>n,fun | 3=>2 | 4=>3 | n=>n⟩
theorem Tryz.laysValid:Go.Proofs.Lays.n196 Tryz.prog Tryz.laysValid_ren:=by
 constructor
 all_goals repeat' first | kernel_rfl |(intro _;kernel_rfl) | constructor
def Tryz.laysDecode_ren:Go.Shelf.Ren:=⟨fun | 197=>239 | 260=>257 | n=>n,fun | 9=>9 | 21=>21 | 3=>3 | 4=>4 | 5=>5 | 105=>317 | 119=>341 | 0=>0 | 46=>181 | 139=>344 | 138=>343 | n=>n,fun | 3=>2 | 4=>3 | n=>n⟩
theorem Tryz.laysDecode:Go.Proofs.Lays.n197 Tryz.prog Tryz.laysDecode_ren:=by
 constructor
 all_goals repeat' first | kernel_rfl |(intro _;kernel_rfl) | constructor
def Tryz.laysC174_ren:Go.Shelf.Ren:=⟨fun | 174=>215 | 247=>240 | 245=>241 | 287=>258 | 279=>259 | 280=>260 | 281=>261 | 282=>262 | 321=>274 | 322=>275 | 316=>276 | 171=>278 | 205=>277 | 243=>287 | 246=>288 | 283=>289 | 284=>290 | 285=>291 | 286=>292 | 129=>154 | 317=>293 | 318=>294 | 319=>295 | 320=>296 | 337=>297 | 338=>298 | n=>n,fun | 9=>9 | 3=>3 | 2=>2 | 75=>86 | 85=>297 | 4=>4 | 167=>329 | 5=>5 | 53=>246 | 175=>330 | 46=>181 | 168=>332 | 37=>22 | 0=>0 | 210=>347 | 21=>21 | 127=>233 | 145=>359 | 143=>357 | 171=>361 | 173=>363 | 212=>366 | 51=>244 | 20=>20 | 213=>367 | 232=>368 | 233=>369 | 80=>175 | n=>n,fun | 15=>4 | 16=>5 | 17=>6 | 18=>7 | 19=>8 | n=>n⟩
theorem Tryz.laysC174:Go.Proofs.LaysC.n174 Tryz.prog Tryz.laysC174_ren:=by
 constructor
 all_goals repeat' first | kernel_rfl |(intro _;kernel_rfl) | constructor
open Go.RowKit in
theorem Tryz.strconv_ParseInt_10_at64_ok(s:ByteArray)(hmax:s.size<=9223372036854775806)(v:Int)(h:Lib.parseIntB 64 s.data.toList= .ok v)(w:World):
  δ Tryz.prog 215 #[.string s,ι κ 10,ι κ 64] w fun e w'=>e=ε (τ #[ι κ v,.nilIface])/\(w'=w∨∃ t,w'=Lib.bytesWorld w 5 t):=Any.strconv_ParseInt_10_at64_ok Tryz.laysC174 s hmax v h w
open Go.RowKit in
theorem Tryz.strconv_ParseInt_10_at64_range(s:ByteArray)(hlim:s.size<=281474976710656)(h:Lib.parseIntB 64 s.data.toList= .range)(ev:ω)(w:World)(hv:w.cell? ⟨5,0,ν⟩=η ev)(hev:ev= .nilIface∨∃ te pe,ev=φ te pe):
  δ Tryz.prog 215 #[.string s,ι κ 10,ι κ 64] w fun e w'=>∃ N,e=ε (τ #[ι κ (Lib.intSat 64 s.data.toList),φ 332 (π (η ⟨N,0,ν⟩))])/\w.heap.size<=N/\w'.heap[N]?=η (χ #[σ ⟨#[80,97,114,115,101,73,110,116]⟩,.string s,ev] 347 (0,0))/\Below w.heap.size w w':=Any.strconv_ParseInt_10_at64_range Tryz.laysC174 s hlim h ev w hv hev
def Tryz.lays121_ren:Go.Shelf.Ren:=⟨fun | 121=>335 | 214=>336 | n=>n,fun | 4=>4 | 9=>9 | n=>n,fun | n=>n⟩
theorem Tryz.lays121:Go.Proofs.Lays.n121 Tryz.prog Tryz.lays121_ren:=by
 constructor
 all_goals repeat' first | kernel_rfl |(intro _;kernel_rfl) | constructor
open Go.RowKit in
theorem Tryz.strconv_FormatBool(b:Bool)(w:World):
  δ Tryz.prog 335 #[θ b] w fun e w'=>e=ε (σ ⟨(Lib.formatBool b).toArray⟩)/\w'=w:=Any.strconv_FormatBool Tryz.lays121 b w
def Tryz.laysM173_ren:Go.Shelf.Ren:=⟨fun | 173=>349 | 246=>288 | 283=>289 | 284=>290 | 285=>291 | 286=>292 | 129=>154 | 317=>293 | 318=>294 | 319=>295 | 320=>296 | 337=>297 | 338=>298 | n=>n,fun | 2=>2 | 3=>3 | 9=>9 | 4=>4 | 171=>361 | 0=>0 | 53=>246 | 37=>22 | 5=>5 | 173=>363 | 212=>366 | 51=>244 | 20=>20 | 213=>367 | 46=>181 | 232=>368 | 233=>369 | n=>n,fun | 17=>6 | 18=>7 | 19=>8 | n=>n⟩
theorem Tryz.laysM173:Go.Proofs.LaysM.n173 Tryz.prog Tryz.laysM173_ren:=by
 constructor
 all_goals repeat' first | kernel_rfl |(intro _;kernel_rfl) | constructor
open Go.RowKit Go.Sort Go.Lib in
theorem Tryz.strconv_FormatInt_10 (n : Int) (h0 : -9223372036854775808 ≤ n) (h1 : n ≤ 9223372036854775807) (w : World) (htab : Lib.TabIs Tryz.prog w "internal/strconv.uint64pow10" .u64 Lib.pow10Tab) :
  δ Tryz.prog 349 #[ι κ n,ι κ 10] w fun e w'=>e=ε (σ ⟨(Lib.itoa n).toArray⟩)/\∃ k os,w'=grow (w.drewN k) os:=Any.strconv_FormatInt_10 Tryz.laysM173 n h0 h1 w htab
def Tryz.laysM171_ren:Go.Shelf.Ren:=⟨fun | 171=>278 | 243=>287 | 246=>288 | 283=>289 | 284=>290 | 285=>291 | 286=>292 | 129=>154 | 317=>293 | 318=>294 | 319=>295 | 320=>296 | 337=>297 | 338=>298 | n=>n,fun | 3=>3 | 9=>9 | 2=>2 | 4=>4 | 171=>361 | 0=>0 | 53=>246 | 37=>22 | 5=>5 | 173=>363 | 212=>366 | 51=>244 | 20=>20 | 213=>367 | 46=>181 | 232=>368 | 233=>369 | n=>n,fun | 17=>6 | 18=>7 | 19=>8 | n=>n⟩
theorem Tryz.laysM171:Go.Proofs.LaysM.n171 Tryz.prog Tryz.laysM171_ren:=by
 constructor
 all_goals repeat' first | kernel_rfl |(intro _;kernel_rfl) | constructor
open Go.RowKit Go.Sort Go.Lib in
theorem Tryz.strconv_Itoa (n : Int) (h0 : -9223372036854775808 ≤ n) (h1 : n ≤ 9223372036854775807) (w : World) (htab : Lib.TabIs Tryz.prog w "internal/strconv.uint64pow10" .u64 Lib.pow10Tab) :
  δ Tryz.prog 278 #[ι κ n] w fun e w'=>e=ε (σ ⟨(Lib.itoa n).toArray⟩)/\∃ k os,w'=grow (w.drewN k) os:=Any.strconv_Itoa Tryz.laysM171 n h0 h1 w htab
def Tryz.lays194_ren:Go.Shelf.Ren:=⟨fun | 194=>45 | n=>n,fun | 31=>35 | 9=>9 | 3=>3 | 4=>4 | 0=>0 | n=>n,fun | n=>n⟩
theorem Tryz.lays194:Go.Proofs.Lays.n194 Tryz.prog Tryz.lays194_ren:=by
 constructor
 all_goals repeat' first | kernel_rfl |(intro _;kernel_rfl) | constructor
open Go.RowKit Go.Lib Go.Sort in
theorem Tryz.slices_Compact_string(blk off cap:Nat)(zs:List (List UInt8))(w:World)(hH:Holds encStr w blk off zs.toArray)(hsz:zs.length<=9223372036854775807)(hcap:zs.length<=cap):
  δ Tryz.prog 45 #[ς (η ⟨blk,off,ν⟩) zs.length cap] w fun e w'=>e=ε (ς (η ⟨blk,off,ν⟩) (Lib.compact zs).length cap)/\∃ q,w'=putRow encStr (Sort.ahead w q) blk off (Lib.compact zs++List.replicate (zs.length - (Lib.compact zs).length) []).toArray:=Any.slices_Compact_string Tryz.lays194 blk off cap zs w hH hsz hcap
open Go.RowKit Go.Lib Go.Sort in
theorem Tryz.slices_Compact_string_empty(a:Option Addr)(cap:Nat)(w:World):
  δ Tryz.prog 45 #[ς a 0 cap] w fun e w'=>e=ε (ς a 0 cap)/\w'=w:=Any.slices_Compact_string_empty Tryz.lays194 a cap w
def Tryz.laysTrim_ren:Go.Shelf.Ren:=⟨fun | 161=>192 | 231=>227 | 227=>228 | 233=>229 | 235=>230 | 228=>253 | 197=>239 | 151=>254 | 260=>257 | 152=>272 | 137=>284 | 119=>285 | 224=>270 | 225=>269 | 217=>268 | 266=>282 | n=>n,fun | 9=>9 | 4=>4 | 3=>3 | 5=>5 | 117=>309 | 116=>308 | 0=>0 | 124=>312 | 105=>317 | 21=>21 | 119=>341 | 46=>181 | 139=>344 | 138=>343 | n=>n,fun | 3=>2 | 4=>3 | n=>n⟩
theorem Tryz.laysTrim:Go.Proofs.Lays.n161 Tryz.prog Tryz.laysTrim_ren:=by
 constructor
 all_goals repeat' first | kernel_rfl |(intro _;kernel_rfl) | constructor
end Go.Proofs
namespace Go.Proofs.YtgoafoojaceadaaGreatDoor
open Go.RowKit Go.Shelf
variable{k b B r pos:Nat}{w:Wo}{qs done:List (List UInt8)}{l:List UInt8}{ss:List Bs}{s:Bs}
def ML(w:Wo):Prop:=∃ m,w.cell? ⟨Tryz.laysM146_ren.g 1,0,ν⟩=η (ι κ m)
theorem ML.of(h:w.ShapedOpen Tryz.prog):ML w:=Tryz.laysM146.s1_3 w h
theorem ML.below{w':Wo}(h:ML w)(hb:Below w w w'):ML w':=by
 obtain⟨m,a⟩:=h;exact⟨m,(hb.cell (yK _ _ a)).trans a⟩
def GN(s:Bs):List Bs:=Lib.splitB ⟨#[47]⟩ 0 (Ν s ⟨#[47]⟩) s
theorem zkc(s:Bs):(GN s).map (·.data.toList)=ZY s.data.toList:=zbN s
theorem LN(s:Bs):(GN s).length=Ν s ⟨#[47]⟩+1:=Lib.splitB_all ⟨#[47]⟩ dc 0 _ s rfl
theorem zkd(s:Bs):(GN s).length<=s.size+1:=by rw[LN];have:=Lib.countB_le ⟨#[47]⟩ dc _ s (ye _);omega
theorem zke(s:Bs)(w:Wo)(h:ML w)(hs:s.size<=1048576):
  δ Tryz.prog 140 #[s,σ ⟨#[47]⟩] w fun e w'=>e=ε (ς (η w) (GN s).length (GN s).length)/\SS w' (η w) w 0 (GN s)/\Below w w w'/\w.heap.size<w'.heap.size:=by
 obtain⟨m,b⟩:=h;refine Calls.mono (Any.strings_Split {Tryz.laysM146 with} Tryz.laysM146.i9 s ⟨#[47]⟩ m w om b dc) ?_;rintro e w' ⟨rfl,rfl⟩;refine⟨?_,⟨fun _=>rfl,fun j hj=>?_⟩,(yI _ _).alloc (ye _) _,sm⟩
 .rw[LN]
 .have a:=yH w (χ ((GN s).map Ξ).toArray 9);show (w.alloc (χ ((GN s).map Ξ).toArray 9)).cell? _=_
  rw[yG a];simp[hj]
theorem zkf{c:UInt8}{r:List UInt8}(h:¬ c.toNat=47):∃ p ps,ZY (c :: r)=(c :: p) :: ps:=by
 cases hp:ZY r with
 | nil=>exact absurd hp (WA r)
 | cons p ps=>exact⟨p,ps,Gd h hp⟩
theorem LO:∀ (l p:List UInt8),p∈ZY l->p.length<=l.length
 | [],p,h=>by simp[ZY]at h;subst h;simp
 | c :: r,p,h=>by
  have ih:=LO r;by_cases a:c.toNat=47
  .rw[WB r a]at h;rcases List.mem_cons.1 h with rfl | h
   .simp
   .have:=ih p h;simp;omega
  .cases hp:ZY r with
   | nil=>exact absurd hp (WA r)
   | cons q qs=>
    rw[Gd a hp]at h;rcases List.mem_cons.1 h with rfl | h
    .have:=ih q (by rw[hp];exact yq);simp;omega
    .have:=ih p (by rw[hp];exact yw _ h);simp;omega
def Y9(qs:List (List UInt8))(k:Nat)(done:List (List UInt8)):Prop:=qs.mapM zQ=((qs.drop k).mapM zQ).map (done++·)
theorem Y9.start(qs:List (List UInt8)):Y9 qs 0 []:=by simp[Y9]
theorem PN(p:List UInt8)(ps:List (List UInt8)):(p :: ps).mapM zQ=(zQ p).bind fun t=>(ps.mapM zQ).map (t :: ·):=by
 rw[List.mapM_cons]
 cases zQ p with
 | none=>rfl
 | some t=>cases List.mapM zQ ps<;>rfl
theorem Y9.step{t:List UInt8}(h:Y9 qs k done)(hk:k<qs.length)(hu:zQ qs[k]=η t):Y9 qs (k+1) (done++[t]):=by
 unfold Y9 at *;rw[h,Μ hk,PN,hu];show Option.map (done++·) (Option.map (t :: ·) _)=_
 rw[Option.map_map];congr 1;funext x;simp
theorem Y9.bad(h:Y9 qs k done)(hk:k<qs.length)(hu:zQ qs[k]=ν):qs.mapM zQ=ν:=by
 rw[h,Μ hk,PN,hu];rfl
theorem Y9.fin(h:Y9 qs k done)(hk:qs.length<=k):qs.mapM zQ=η done:=by
 rw[h,List.drop_eq_nil_of_le hk];simp
theorem LP(s:Bs)(w:Wo)(hML:ML w)(hs:s.size<=1048576):
  δ Tryz.prog 91 #[s] w fun e w'=>∃ v,e=ε (τ #[v,θ (zH s.data.toList).isSome])/\OT w' w v ((zH s.data.toList).getD [])/\Below w w w':=by
 obtain⟨i0,hi,J,K,L⟩:=info_parts GU;by_cases h0:s.size=0
 .have Z:s=⟨#[]⟩:=by
   have:s.data.toList=[]:=yO (by rw[Zo];exact h0);obtain⟨⟨l⟩⟩:=s;simp at this;subst this;rfl
  subst Z;go_in;go_wp2;go_ret2;exact⟨_,rfl,Ζ _ _ _ _,yI _ _⟩
 .have hne:s.toList.isEmpty=ζ:=by
   rw[Ο,List.isEmpty_eq_false_iff];intro e;exact h0 (by rw[← Zo,e];rfl)
  have V:0<s.size:=om;have hdl:=Zo s;have C:=zb (zke s w hML hs);have d:=zkc s;have E:=zkd s;have F:s.data.toList=s[0] :: s.data.toList.drop 1:=by have:=QV s 0 V;simpa using this
  obtain⟨z,a,H⟩:∃ z a,GN s=z :: a:=by
   cases h:GN s with
   | nil=>have:=LN s;rw[h]at this;simp at this
   | cons z a=>exact⟨z,a,rfl⟩
  rw[H]at d E;rw[H]at C;by_cases g:s[0].toNat=47
  .rw[F,WB _ g]at d;simp only[yi,List.cons.injEq]at d;have G:z=⟨#[]⟩:=by obtain⟨⟨l⟩⟩:=z;have:=d.1;simp at this;subst this;rfl
   have P:=zb d.2;have B:=zb (Ml om g);subst G;go_in;go_wp2_with fail;go_call C as e w1 ⟨rfl,s1,b1,z1⟩;have c0:=s1.cell 0 sm;simp only[Nat.add_zero,List.getD_cons_zero]at c0;have hpl:a.length<=1048576:=by simp at E;omega
   have Y:¬ a=[]:=by intro e;have h:=uh P;rw[e]at h;exact WA _ h.symm
   have hpp:0<a.length:=by cases a with
    | nil=>exact absurd rfl Y
    | cons _ _=>simp
   have U:=zb s1;have y:=b1.size;go_wp2_with (at_make;refine wpList_make_own _ rfl _ _ 35 rfl w1 9 i0 Α 1 Tryz.underlying35 hi J K .i64 .i64 _ a.length rfl rfl rfl (by rw[L];omega) mo (ye _) ?_);intro w2 u j;have R:=zb ((yI _ _).grown j (ye _) (by intro k Q;cases Q));have T:=zb u;go_wp2;go_loopw [5,25] (fun v i wr=>∃ (k:Nat) (b:List (List UInt8)),k<=a.length/\i=ι κ k/\b.length<=k/\OT wr w1 v b/\Below w1 w1 wr/\Y9 (a.map (·.data.toList)) k b) (fun _ i _=>a.length - (intOf i).toNat)
   case atStart=>exact⟨0,[],yu _,rfl,ye _,T,R,Y9.start _⟩
   case round=>
    obtain⟨k,b,Q,rfl,hdn,n,D,X⟩:=hrel;have S:=zb X;have hwsz:=D.size;by_cases f:k<a.length
    .have W:=U.cell (k+1) so;have hc:wr.cell? ⟨w,1+k,ν⟩=η (a.getD k Α):=by
      have h1:w1.cell? ⟨w,1+k,ν⟩=η (a.getD k Α):=by
       rw[show 1+k=0+(k+1)from by omega,W];simp
      exact (D.cell (p:=⟨w,1+k,ν⟩) z1).trans h1
     have aa:(a.getD k Α).size<=1048576:=by
      have hm:(a.getD k Α).data.toList∈a.map (·.data.toList):=yP.2 ⟨_,by simp[f],rfl⟩;rw[uh P]at hm;have:=LO _ _ hm;rw[Zo,yv,Zo]at this;omega
     have I:(a.map (·.data.toList))[k]'(by simpa using f)=(a.getD k Α).data.toList:=by simp[f]
     have O:=zb (zbY (a.getD k Α) wr aa);generalize a.getD k Α=p at *
     cases ho:zQ p.data.toList with
     | none=>
      have A:=zb (S.bad (by simpa using f) (by rw[I];exact ho));rw[ho,Rh]at O;go_wp2_with fail;go_call O as e w3 ⟨rfl,b3⟩;have N:=zh D b3;go_wp2;go_ret2;have HR:zH s.data.toList=ν:=by rw[uh B];unfold Jg;rw[← uh P];exact A
      exact⟨_,by rw[HR];rfl,by rw[HR];exact Ζ _ _ _ _,b1.trans (N.mono y)⟩
     | some t=>
      have A:=zb (S.step (by simpa using f) (by rw[I];exact ho));rw[ho,Rg]at O;go_wp2_with fail;go_call O as e w3 ⟨rfl,b3⟩;have N:=zh D b3;have o:=Zh n b3;have ab:=N.size;go_wp2_with (at_builtin;refine wpList_append_own _ rfl (.tmp 36) (.tmp 38) 35 rfl w1 9 i0 Α 1 16 Tryz.underlying35 hi J K L rfl dc _ _ _ rfl (o.alloc _) w3 1 1 [(zG t)] rfl rfl (QU _ _ _) (Ge _) mo om so ?_);intro v4 w4 x m _;have B4:=(N.alloc ab _).grown m so (fun k Q=>(o.lt k Q).1);have M:=OT.step (t:=t) x;go_wp2;go_roundw
      case rel=>exact⟨k+1,b++[t],om,by go_num,so,M,B4,A⟩
      case measure=>simp[intOf];omega
    .have A:=zb (S.fin so);go_wp2;go_ret2;have HR:zH s.data.toList=η b:=by rw[uh B];unfold Jg;rw[← uh P];exact A
     exact⟨_,by rw[HR];rfl,by rw[HR];exact qH n y,b1.trans (D.mono y)⟩
  .obtain⟨q,qs,hq⟩:=zkf (r:=s.data.toList.drop 1) g;rw[F,hq]at d;simp only[yi,List.cons.injEq]at d;have G:z.toList.isEmpty=ζ:=by rw[Ο,d.1];rfl
   have B:=zb (Mm om g);go_in;go_wp2_with fail;go_call C as e w1 ⟨rfl,s1,b1,z1⟩;have c0:=s1.cell 0 sm;simp only[Nat.add_zero,List.getD_cons_zero]at c0;go_wp2;go_ret2;exact⟨_,by rw[uh B];rfl,by rw[uh B];exact Ζ _ _ _ _,b1⟩
theorem XO(w:Wo)(n B:Nat):Below B w (w.drewN n):=⟨rfl,rfl,rfl,ye _,fun _ _=>rfl⟩
theorem PO(l:List UInt8):((zH l).getD []).length<=l.length:=by
 cases l with
 | nil=>simp[zH]
 | cons c r=>
  rw[zH];split
  .unfold Jg;have b:∀ (qs:List (List UInt8)),((qs.mapM zQ).getD []).length<=qs.length:=by
    intro qs;induction qs with
    | nil=>simp
    | cons q qs ih=>
     rw[PN]
     cases zQ q with
     | none=>simp
     | some t=>
      cases hq:List.mapM zQ qs with
      | none=>simp
      | some ts=>rw[hq]at ih;simp at ih ⊢;omega
   have d:∀ (l:List UInt8),(ZY l).length<=l.length+1:=by
    intro l;induction l with
    | nil=>simp[ZY]
    | cons c r ih=>
     by_cases a:c.toNat=47
     .rw[WB r a];simp;omega
     .cases hp:ZY r with
      | nil=>exact absurd hp (WA r)
      | cons q qs=>rw[Gd a hp];rw[hp]at ih;simp at ih ⊢;omega
   have:=b (ZY r);have:=d r;simp;omega
  .simp
theorem za5(B b:Nat)(bs:List ω)(r:Int)(hr0: -2147483648<=r)(hr1:r<=2147483647)(w:Wo)(h:Lib.IsBuilder 173 5 B b bs w)(hlen:bs.length+4<=140737488355328)(hBw:B<=w.heap.size):
  δ Tryz.prog 211 #[b,.int .i32 r] w fun e w'=>(∃ n:Int,e=ε (τ #[ι κ n,.nilIface]))/\(Lib.BuilderAt 173 5 B b b (bs++Ε r) w'/\Below B w w'/\Lib.OthersKept 5 (η b) w w'):=by
 go_in;go_wp2_with (go_at_call 226;refine (RC B b bs _ h).mono ?_);rintro e s ⟨rfl,L,u,D⟩;obtain⟨G,v,j,d,F⟩:=L;have c0:s.cell? b=η b:=by rw[yG j];rfl
 have c1:s.cell? ⟨b,1,ν⟩=η v:=by rw[yG j];rfl
 obtain⟨x,z,y,rfl⟩:∃ i l a,v=ς i l a:=by
  rcases d.2 with ⟨q,_⟩ |⟨g,a,A,q,_⟩
  .exact⟨_,_,_,q⟩
  .exact⟨_,_,_,q⟩
 have m:B<=s.heap.size:=by have:=u.size;omega
 have H:=zb (Tryz.utf8_AppendRune_plain B (ς x z y) bs.length bs r hr0 hr1 s d hlen m);go_wp2_with fail;go_call H as e w2 ⟨v',rfl,hown',o,hgrow⟩;have E:b<s.heap.size:=by
  rcases Nat.lt_or_ge b s with C | C
  .exact C
  .simp[Array.getElem?_eq_none C]at j
 have f:w2.heap[b]?=η (χ #[b,ς x z y] 173 (0,0)):=by
  rw[hgrow.block b so (fun e=>F e.symm),Lib.alloc_old s _ b E];exact j
 have M:w2.cell? b=η b:=by rw[yG f];rfl
 have N:w2.cell? ⟨b,1,ν⟩=η (ς x z y):=by rw[yG f];rfl
 have P:=yJ f 1;obtain⟨i,l,a,rfl⟩:∃ i l a,v'=ς i l a:=by
  rcases hown'.2 with ⟨q,_⟩ |⟨g,a,A,q,_⟩
  .exact⟨_,_,_,q⟩
  .exact⟨_,_,_,q⟩
 have I:=zb (Lib.BuilderAt.put (T:=173) (e:=5) G f (bs':=bs++Ε r) (by simpa using hown') dc);have J:Hid (Below B w (w2.setCell ⟨b,1,ν⟩ (ς i l a))):=((u.alloc m _).grown hgrow so (fun k hk=>(d.lt k hk).1)).setCell (p:=⟨b,1,ν⟩) G _;have K:Hid (Lib.OthersKept 5 (η b) w (w2.setCell ⟨b,1,ν⟩ (ς i l a))):=((D.alloc o).grown hgrow (RA (d.alloc _))).setCell ⟨b,1,ν⟩ rfl _;have O:(w2.setCell ⟨b,1,ν⟩ (ς i l a)).cell? ⟨b,1,ν⟩=η (ς i l a):=by
  have:=heap_setCell_same w2 b 1 #[b,ς x z y] 173 (ς i l a) f;rw[yG this];rfl
 go_wp2;go_ret2;exact⟨⟨_,rfl⟩,I,J,K⟩
def pc(r:Nat):List UInt8:=if r<128 then qB (UInt8.ofNat r)else Lib.encodeRune r
theorem za6(r:Nat):(pc r).length<=6:=by
 unfold pc;split
 .exact Rl _
 .have:=Lib.encodeRuneZ_length r;simp[Lib.encodeRune];omega
theorem GO(h:r<128):pc r=qB (UInt8.ofNat r):=by unfold pc;rw[yg h]
theorem Va(h:r<256):(UInt8.ofNat r).toNat=r:=by rw[UInt8.toNat_ofNat'];omega
abbrev JP(b:Nat)(w w':Wo):Prop:=Lib.OthersKept 5 (η b) w w'
theorem zkg:∀ r:Fin 32,bits BinOp.and IntKind.i32 ((r.val:Nat):Int) 15=((r.val % 16:Nat):Int):=by decide +kernel
theorem zkh(h:r<32):bits BinOp.and IntKind.i32 (r:Int) 15=((r % 16:Nat):Int):=zkg ⟨r,h⟩
theorem zki(B b:Nat)(l:List UInt8)(r:Nat)(w:Wo)(h:zZ B b l w)(hB:B<=w.heap.size)(hr:r<=1114111)(hl:l.length<=100000000):
  δ Tryz.prog 326 #[b,.int .i32 r] w fun e w'=>e=ε (τ #[])/\zZ B b (l++pc r) w'/\Below B w w'/\JP b w w':=by
 have P:(Δ l).length<=100000000:=by rw[yL];exact hl
 by_cases y:32<=r
 .by_cases e:r=34
  .have d:Hid (pc r=[92,34]):=by
    show _=_;rw[GO om,Ks (by rw[Va om];omega)];subst e;rfl
   have f:((r:Int) ==34)=ξ:=by rw[yD];omega
   go_in;go_wp2_with fail;go_call Vw B b _ _ _ h (by show _+2<=_;omega) hB as e w1 ⟨rfl,h1,b1,k1⟩;have a:=zZ.str (m:=[92,34]) rfl h1;go_wp2;go_end0;exact⟨rfl,by rw[uh d];exact a,b1,k1⟩
  .by_cases E:r=92
   .have e:=E;have d:Hid (pc r=[92,92]):=by
     show _=_;rw[GO om,Ks (by rw[Va om];omega)];subst e;rfl
    have f:((r:Int) ==34)=ζ:=by rw[yd];omega
    have g:((r:Int) ==92)=ξ:=by rw[yD];omega
    go_in;go_wp2_with fail;go_call Vw B b _ _ _ h (by show _+2<=_;omega) hB as e w1 ⟨rfl,h1,b1,k1⟩;have a:=zZ.str (m:=[92,92]) rfl h1;go_wp2;go_end0;exact⟨rfl,by rw[uh d];exact a,b1,k1⟩
   .have d:Hid (Ε r=Δ (pc r)):=by
     show _=_
     by_cases F:r<128
     .rw[GO F,Ou (by rw[Va om];exact e) (by rw[Va om];exact E) (by rw[Va om];exact y)];unfold Ε;rw[Lib.encodeRuneZ_one om om];simp only[yi,List.map_nil,Δ,Va (show r<256 by omega)]
     .unfold pc;rw[yf F,Lib.byteCells_encodeRune]
    have f:((r:Int) ==34)=ζ:=by rw[yd];omega
    have g:((r:Int) ==92)=ζ:=by rw[yd];omega
    have o:((r:Int) ==8)=ζ:=by rw[yd];omega
    have u:((r:Int) ==9)=ζ:=by rw[yd];omega
    have j:((r:Int) ==10)=ζ:=by rw[yd];omega
    have k:((r:Int) ==12)=ζ:=by rw[yd];omega
    have s:((r:Int) ==13)=ζ:=by rw[yd];omega
    have D:(32:Int)<=(r:Int):=om;go_in;go_wp2_with fail;go_call za5 B b _ (r:Int) (by omega) (by omega) _ h (by omega) hB as e w1 ⟨⟨n,rfl⟩,h1,b1,k1⟩;have a:=zZ.cells d h1;go_wp2;try simp only[Exit.inBlock,Exit.then]
    refine bodyPost_ret (results_none rfl _ _ _) rfl ?_;exact⟨rfl,a,b1,k1⟩
 .by_cases z:Kt r
  .have d:Hid (pc r=[92,117,48,48,J6.getD (r / 16) 0,J6.getD (r % 16) 0]):=by
    show _=_;rw[GO om,Rs (by rw[Va om];exact z),Va om]
   obtain⟨J,K,L,M,N,O⟩:=z;have f:((r:Int) ==34)=ζ:=by rw[yd];omega
   have g:((r:Int) ==92)=ζ:=by rw[yd];omega
   have o:((r:Int) ==8)=ζ:=by rw[yd];omega
   have u:((r:Int) ==9)=ζ:=by rw[yd];omega
   have j:((r:Int) ==10)=ζ:=by rw[yd];omega
   have k:((r:Int) ==12)=ζ:=by rw[yd];omega
   have s:((r:Int) ==13)=ζ:=by rw[yd];omega
   have D:¬ (32:Int)<=(r:Int):=om;obtain⟨q,i⟩:∃ q:Nat,q=r % 16:=⟨_,rfl⟩;have G:bits BinOp.and IntKind.i32 (r:Int) 15=(q:Int):=by rw[i];exact zkh om
   have p:q<16:=om;rw[← i]at d;clear i;go_in;go_wp2_with fail;go_call Vw B b _ _ _ h (by show _+4<=_;omega) hB as e w1 ⟨rfl,h1,b1,k1⟩;have a:=zZ.str (m:=[92,117,48,48]) rfl h1;have A:B<=w1.heap.size:=by have:=b1.size;omega
   go_wp2_with fail;go_call Kz B b _ _ _ a (by rw[yL];simp;omega) A as e w2 ⟨rfl,h2,b2,k2⟩;have v:=zZ.byte (c:=J6.getD (r / 16) 0) (congrArg (fun c:UInt8=>(c.toNat:Int)) (Ov (r / 16) om)) h2;have C:B<=w2.heap.size:=by have:=b2.size;omega
   go_wp2_with fail;go_call Kz B b _ _ _ v (by rw[yL];simp;omega) C as e w3 ⟨rfl,h3,b3,k3⟩;have x:=zZ.byte (c:=J6.getD q 0) (congrArg (fun c:UInt8=>(c.toNat:Int)) (Ov q p)) h3;have H:=(b1.trans b2).trans b3;have I:=(k1.trans k2).trans k3;go_wp2;go_end0;exact⟨rfl,by rw[uh d];simpa using x,H,I⟩
  .rcases (show r=8∨r=9∨r=10∨r=12∨r=13 from by unfold Kt at z;omega)with e | e | e | e | e
   .have d:Hid (pc r=[92,98]):=by
     show _=_;rw[GO om,Rn (by rw[Va om];omega)]
    have f:((r:Int) ==34)=ζ:=by rw[yd];omega
    have g:((r:Int) ==92)=ζ:=by rw[yd];omega
    have o:((r:Int) ==8)=ξ:=by rw[yD];omega
    go_in;go_wp2_with fail;go_call Vw B b _ _ _ h (by show _+2<=_;omega) hB as e w1 ⟨rfl,h1,b1,k1⟩;have a:=zZ.str (m:=[92,98]) rfl h1;go_wp2;go_end0;exact⟨rfl,by rw[uh d];exact a,b1,k1⟩
   .have d:Hid (pc r=[92,116]):=by
     show _=_;rw[GO om,Ro (by rw[Va om];omega)]
    have f:((r:Int) ==34)=ζ:=by rw[yd];omega
    have g:((r:Int) ==92)=ζ:=by rw[yd];omega
    have o:((r:Int) ==8)=ζ:=by rw[yd];omega
    have u:((r:Int) ==9)=ξ:=by rw[yD];omega
    go_in;go_wp2_with fail;go_call Vw B b _ _ _ h (by show _+2<=_;omega) hB as e w1 ⟨rfl,h1,b1,k1⟩;have a:=zZ.str (m:=[92,116]) rfl h1;go_wp2;go_end0;exact⟨rfl,by rw[uh d];exact a,b1,k1⟩
   .have d:Hid (pc r=[92,110]):=by
     show _=_;rw[GO om,Rp (by rw[Va om];omega)]
    have f:((r:Int) ==34)=ζ:=by rw[yd];omega
    have g:((r:Int) ==92)=ζ:=by rw[yd];omega
    have o:((r:Int) ==8)=ζ:=by rw[yd];omega
    have u:((r:Int) ==9)=ζ:=by rw[yd];omega
    have j:((r:Int) ==10)=ξ:=by rw[yD];omega
    go_in;go_wp2_with fail;go_call Vw B b _ _ _ h (by show _+2<=_;omega) hB as e w1 ⟨rfl,h1,b1,k1⟩;have a:=zZ.str (m:=[92,110]) rfl h1;go_wp2;go_end0;exact⟨rfl,by rw[uh d];exact a,b1,k1⟩
   .have d:Hid (pc r=[92,102]):=by
     show _=_;rw[GO om,Rq (by rw[Va om];omega)]
    have f:((r:Int) ==34)=ζ:=by rw[yd];omega
    have g:((r:Int) ==92)=ζ:=by rw[yd];omega
    have o:((r:Int) ==8)=ζ:=by rw[yd];omega
    have u:((r:Int) ==9)=ζ:=by rw[yd];omega
    have j:((r:Int) ==10)=ζ:=by rw[yd];omega
    have k:((r:Int) ==12)=ξ:=by rw[yD];omega
    go_in;go_wp2_with fail;go_call Vw B b _ _ _ h (by show _+2<=_;omega) hB as e w1 ⟨rfl,h1,b1,k1⟩;have a:=zZ.str (m:=[92,102]) rfl h1;go_wp2;go_end0;exact⟨rfl,by rw[uh d];exact a,b1,k1⟩
   .have d:Hid (pc r=[92,114]):=by
     show _=_;rw[GO om,Rr (by rw[Va om];omega)]
    have f:((r:Int) ==34)=ζ:=by rw[yd];omega
    have g:((r:Int) ==92)=ζ:=by rw[yd];omega
    have o:((r:Int) ==8)=ζ:=by rw[yd];omega
    have u:((r:Int) ==9)=ζ:=by rw[yd];omega
    have j:((r:Int) ==10)=ζ:=by rw[yd];omega
    have k:((r:Int) ==12)=ζ:=by rw[yd];omega
    have s:((r:Int) ==13)=ξ:=by rw[yD];omega
    go_in;go_wp2_with fail;go_call Vw B b _ _ _ h (by show _+2<=_;omega) hB as e w1 ⟨rfl,h1,b1,k1⟩;have a:=zZ.str (m:=[92,114]) rfl h1;go_wp2;go_end0;exact⟨rfl,by rw[uh d];exact a,b1,k1⟩
theorem za7{T e:TypeId}{p:ω}{bs:List ω}(h:Lib.BuilderAt T e B b p bs w)(hk:w.heap[k]?=η (.stringIter s pos))(pos':Nat):Lib.BuilderAt T e B b p bs (w.iterAt k s pos'):=by
 obtain⟨u,v,l,a,r⟩:=h;have o:b≠k:=by
  intro j;rw[j,hk]at l
  cases l
 refine⟨u,v,(Lib.iterAt_other w k b s pos' o).trans l,⟨a.1,?_⟩,r⟩;rcases a.2 with x |⟨g,f,i,y,m,n,d⟩
 .exact .inl x
 .have q:g≠k:=by
   intro j;rw[j,hk]at n
   cases n
  exact .inr ⟨g,f,i,y,m,(Lib.iterAt_other w k g s pos' q).trans n,d⟩
theorem zZ.iterAt(h:zZ B b l w)(hk:w.heap[k]?=η (.stringIter s pos))(pos':Nat):zZ B b l (w.iterAt k s pos'):=
 h.elim (fun x=>.inl (za7 x hk pos')) (fun x=>.inr (za7 x hk pos'))
theorem zZ.alloc(h:zZ B b l w)(o:Obj):zZ B b l (w.alloc o):=by
 have g:∀ p,Lib.BuilderAt 173 5 B b p (Δ l) w->Lib.BuilderAt 173 5 B b p (Δ l) (w.alloc o):=by
  rintro p ⟨i,v,f,a,d⟩;exact⟨i,v,(Lib.alloc_old w o b (yC.1 f).1).trans f,a.alloc o,d⟩
 exact h.elim (fun x=>.inl (g _ x)) (fun x=>.inr (g _ x))
theorem zZ.lt(h:zZ B b l w):b<w.heap.size:=h.elim (fun x=>x.lt) (fun x=>x.lt)
def Vb(s:Bs):Nat->Nat->List UInt8
 | 0,_=>[]
 | f+1,pos=>if pos<s.size then pc (Utf8.decode s pos).1++Vb s f (pos+(Utf8.decode s pos).2)else []
def rs(s:Bs):List UInt8:=Vb s s.size 0
theorem zkj(s:Bs)(f pos:Nat)(h:¬ pos<s.size):Vb s f pos=[]:=by
 cases f with
 | zero=>rfl
 | succ f=>simp[Vb,h]
theorem zkk(s:Bs)(pos:Nat):(Utf8.decode s pos).1<=1114111:=by
 rw[Vc];exact Lib.decodeN_rune_le _ _ _ _ _ (qu s pos)
theorem zkl{a:Wo}(h:JP b a w)(hk:a.heap.size<=k)(s:Bs)(pos:Nat):JP b a (w.iterAt k s pos):=fun i o hi hb ho=>by
 have f:=(yC.1 hi).1;have d:=Lib.below_iterAt (yI k w) (k:=k) (ye _) s pos;rw[d.block i om];exact h i o hi hb ho
theorem LQ(B b:Nat)(l:List UInt8)(s:Bs)(w:Wo)(h:zZ B b l w)(hB:B<=w.heap.size)(hl:l.length<=10000000)(hs:s.size<=10000000):
  δ Tryz.prog 323 #[s,b] w fun e w'=>e=ε (τ #[])/\zZ B b (l++34 ::(rs s++[34])) w'/\Below B w w'/\JP b w w':=by
 have V:(Δ l).length<=10000000:=by rw[yL];exact hl
 have O:=h.elim (fun x=>x.1) (fun x=>x.1);have J:=h.lt;go_in;go_wp2_with fail;go_call Kz B b _ 34 _ h (by omega) hB as e w1 ⟨rfl,h1,b1,k1⟩;have S:=b1.size;have K:Hid (zZ B b (l++[34]) (w1.alloc (.stringIter s 0))):=(zZ.byte (c:=34) rfl h1).alloc _;have D:=Lib.BuilderAt.lt h1;have M:Hid (JP b w (w1.alloc (.stringIter s 0))):=Lib.OthersKept.alloc k1 _;go_wp2;go_loopw [] (fun wr=>∃ (a d:Nat) (g:List UInt8),zZ B b g wr/\wr.heap[w1.heap.size]?=η (.stringIter s a)/\Below B w wr/\JP b w wr/\g++Vb s d a=l++34 :: rs s/\s.size<=a+d/\g.length<=l.length+1+6*a) (fun wr=>s.size - wr.iterPos w1.heap.size)
 case atStart=>
  refine⟨0,s.size,l++[34],K,?_,b1.alloc om _,M,by simp[rs],om,sm⟩;exact yH w1 _
 case round=>
  obtain⟨a,d,g,H,j,q,G,i,Q,N⟩:=hrel;have T:=(yC.1 j).1;have o:=zb G;by_cases v:a<s.size
  .have F:∀ ty,(Instr.next w1 ξ ty).run Tryz.prog wr=_:=fun ty=>Lib.run_next_any_at wr w1 s a ty j v;have U:=Lib.decode_width_pos s a v;have E:=zkk s a;have R:=za6 (Utf8.decode s a).1;have C:=H.iterAt j (a+(Utf8.decode s a).2);have u:=Lib.iterAt_heap wr w1 s a (a+(Utf8.decode s a).2) j;have r:=Lib.below_iterAt q (k:=w1.heap.size) om s (a+(Utf8.decode s a).2);have y:B<=(wr.iterAt w1 s (a+(Utf8.decode s a).2)).heap.size:=by rw[Lib.iterAt_size];omega
   obtain⟨f,rfl⟩:∃ f,d=f+1:=⟨d - 1,om⟩;have z:Hid ((g++pc (Utf8.decode s a).1)++Vb s f (a+(Utf8.decode s a).2)=l++34 :: rs s):=by
    show _=_;rw[← i];simp[Vb,v]
   have L:=zb (zki B b g (Utf8.decode s a).1 (wr.iterAt w1 s (a+(Utf8.decode s a).2)) C y E om);have m:=zb u;have A:=zb j;have n:=zb r;go_wp2_with fail;go_call L as e W1 ⟨rfl,h1,b2,k2⟩;go_wp2;go_roundw
   case rel=>exact⟨a+(Utf8.decode s a).2,f,g++pc (Utf8.decode s a).1,h1,k2.iter m om,n.trans b2,(zkl o om _ _).trans k2,z,om,by rw[yh];omega⟩
   case measure=>
    simp only[World.iterPos,k2.iter (uh m) om,uh A];omega
  .have F:∀ ty,(Instr.next w1 ξ ty).run Tryz.prog wr=_:=fun ty=>Lib.run_next_end_at wr w1 s a ty j v;rw[zkj s d a v,yT]at i;have z:=zb i;have I:(Δ g).length<=100000000:=by
    rw[yL,i];have P:∀ f a,(Vb s f a).length<=6*f:=by
     intro f;induction f with
     | zero=>intro a;simp[Vb]
     | succ f ih=>
      intro a;rw[Vb];split
      .rw[yh];have:=ih (a+(Utf8.decode s a).2);have:=za6 (Utf8.decode s a).1;omega
      .simp
    have:=P s.size 0;simp[rs];omega
   go_wp2_with fail;go_call Kz B b _ 34 _ H (by omega) (by omega) as e W1 ⟨rfl,h1,b2,k2⟩;have p:=zZ.byte (c:=34) rfl h1;go_wp2;go_end0;refine⟨rfl,?_,q.trans b2,o.trans k2⟩;rw[uh z]at p;simpa using p
theorem zkm(s:Bs):zG s.data.toList=s:=by obtain⟨⟨l⟩⟩:=s;rfl
def Vp(ss:List Bs):Prop:=ss.length<=1048576/\∀ s∈ss,s.size<=1048576
theorem Vp.at(h:Vp ss){j:Nat}(hj:j<ss.length):(ss.getD j Α).size<=1048576:=h.2 _ (by simp[Κ,hj])
theorem Vp.of(h:ss.length+qU ss<=1048576):Vp ss:=⟨om,fun s hs=>by
 obtain⟨j,a,rfl⟩:=Β hs;have b:=XR a;rw[show ss.getD j Α=ss[j] by simp[Κ,a]]at b;omega⟩
def YA(ss:List Bs):List (List UInt8):=(ss.filter fun s=>(zH s.data.toList).isSome).map (·.data.toList)
theorem zkn(h:k<ss.length):YA (ss.take (k+1))=YA (ss.take k)++(if (zH (ss.getD k Α).data.toList).isSome then [(ss.getD k Α).data.toList]else []):=by
 rw[Oi h];generalize ss.getD k Α=s;unfold YA;rw[List.filter_append,yx];congr 1
 cases hp:(zH s.data.toList).isSome<;>simp[hp]
theorem LR(ss:List Bs):(YA ss).length<=ss.length:=by
 unfold YA;rw[yl];exact List.length_filter_le _ _
theorem LS(s:Bs)(w:Wo)(hML:ML w)(hsz:s.size<=1048576):
  δ Tryz.prog 102 #[s] w fun e w'=>e=ε (θ (zH s.data.toList).isSome)/\Below w w w':=by
 have b:=zb (LP s w hML hsz);generalize (zH s.data.toList).isSome=z at *;go_in;go_wp2_with fail;go_call b as e w1 ⟨v0,rfl,o1,b1⟩;have a:=zb b1;go_wp2;go_ret;exact⟨rfl,a⟩
theorem za8(xa:Option Addr)(xb xo xc:Nat)(ss:List Bs)(w:Wo)(hML:ML w)(h:SS w xa xb xo ss)(hm:Vp ss):
  δ Tryz.prog 50 #[ς xa ss.length xc] w fun e w'=>∃ v,e=ε v/\OT w' w v (YA ss)/\Below w w w':=by
 obtain⟨A,z,g,j,l⟩:=info_parts GU;have o:=h.ad;have K:=zb h.cell;have H:=hm.1;have M:=zb hm;have L:=zb hML;go_in;go_wp2;go_loopw [3,8] (fun v i wr=>∃ k:Nat,k<=ss.length/\i=ι κ k/\OT wr w v (YA (ss.take k))/\Below w w wr) (fun _ i _=>ss.length - (intOf i).toNat)
 case atStart=>exact⟨0,yu _,rfl,Ζ _ _ _ _,yI _ _⟩
 case round=>
  obtain⟨k,G,rfl,b,y⟩:=hrel;by_cases m:k<ss.length
  .have q:=uh K k m;have E:xb<w.heap.size:=yK _ _ q;obtain rfl:=o om;have C:=M.at m;have B:=zkn m;have O:=LR (ss.take k);have I:(ss.take k).length<=k:=by rw[ym];omega
   generalize hs:ss.getD k Α=s at *;have d:=zb B;have P:=(y.cell (p:=⟨xb,xo+k,ν⟩) E).trans q;have x:=zb (LS s wr (L.below y) C);generalize YA (ss.take k)=p at *;have F:=zb y
   cases hp:(zH s.data.toList).isSome with
   | false=>
    rw[hp]at x d;go_wp2_with fail;go_call x as e w1 ⟨rfl,b1⟩;have u:=zh F b1;have a:=Zh b b1;go_wp2;go_roundw
    case rel=>exact⟨k+1,om,by go_num,by rw[uh d];simpa using a,u⟩
    case measure=>simp[intOf];omega
   | true=>
    rw[hp]at x d;go_wp2_with fail;go_call x as e w1 ⟨rfl,b1⟩;have u:=zh F b1;have D:=u.size;have a:=Zh b b1;have N:=zb (zkm s);go_wp2_with (at_builtin;first |(refine wpList_append_own _ rfl (.tmp 15) (.tmp 17) 35 rfl w 9 A Α 1 16 Tryz.underlying35 z g j l rfl dc _ _ _ rfl (a.alloc _) w1 1 1 [s] rfl rfl (QU _ _ _) (Ge _) mo om so ?_) |(refine wpList_append_own _ rfl (.tmp 14) (.tmp 16) 35 rfl w 9 A Α 1 16 Tryz.underlying35 z g j l rfl dc _ _ _ rfl (a.alloc _) w1 1 1 [s] rfl rfl (QU _ _ _) (Ge _) mo om so ?_) |(refine wpList_append_own _ rfl (.tmp 13) (.tmp 15) 35 rfl w 9 A Α 1 16 Tryz.underlying35 z g j l rfl dc _ _ _ rfl (a.alloc _) w1 1 1 [s] rfl rfl (QU _ _ _) (Ge _) mo om so ?_) |(refine wpList_append_own _ rfl (.tmp 16) (.tmp 18) 35 rfl w 9 A Α 1 16 Tryz.underlying35 z g j l rfl dc _ _ _ rfl (a.alloc _) w1 1 1 [s] rfl rfl (QU _ _ _) (Ge _) mo om so ?_));intro Q R n f _;have J:=(u.alloc D _).grown f so (fun k G=>(a.lt k G).1);have r:=OT.step (t:=s.data.toList) (by rw[show QJ s.data.toList= .string s from congrArg Ξ (uh N)];exact n);go_wp2;go_roundw
    case rel=>exact⟨k+1,om,by go_num,by rw[uh d];exact r,J⟩
    case measure=>simp[intOf];omega
  .have e:ss.take k=ss:=yr om;rw[e]at b;go_wp2;go_ret;exact⟨_,rfl,b,y⟩
theorem za9(x y:Bs)(w:Wo):
  δ Tryz.prog 103 #[x,y] w fun e w'=>e=ε (θ (Yl x.data.toList y.data.toList))/\w=w':=by
 have d:=zb (Tryz.strings_CutPrefix y x w);have HR:Hid (Yl x.data.toList y.data.toList=(Lib.hasPrefix y.data.toList x.data.toList && (match Ρ y.data.toList x.data.toList with | []=>ξ | c :: _=>c.toNat ==47))):=rfl;generalize Lib.hasPrefix y.data.toList x.data.toList=b at *;generalize Ρ y.data.toList x.data.toList=r at *;generalize Yl x.data.toList y.data.toList=z at *
 cases b with
 | false=>
  go_in;go_wp2_with fail;go_call d as e w1 ⟨rfl,rfl⟩;go_wp2;go_ret;exact⟨by rw[uh HR];rfl,rfl⟩
 | true=>
  cases r with
  | nil=>
   go_in;go_wp2_with fail;go_call d as e w1 ⟨rfl,rfl⟩;go_wp2;go_ret;exact⟨by rw[uh HR];rfl,rfl⟩
  | cons c r=>
   have g:(⟨(c :: r).toArray⟩:Bs).size=r.length+1:=by show (c :: r).toArray.size=_;simp
   have i:(⟨(c :: r).toArray⟩:Bs).toList.isEmpty=ζ:=by rw[Ο];rfl
   have j:((⟨(c :: r).toArray⟩:Bs)[0]'(by rw[g];omega))=c:=rfl;have h:=zb (by have:=uh HR;simpa using this);generalize (⟨(c :: r).toArray⟩:Bs)=q at *;by_cases f:(c.toNat:Int)=47
   .have a:Hid (z=ξ):=zb (by rw[uh h];simp;omega);go_in;go_wp2_with fail;go_call d as e w1 ⟨rfl,rfl⟩;go_wp2;go_ret;exact⟨by rw[uh a];rfl,rfl⟩
   .have k:((c.toNat:Int) ==47)=ζ:=by simpa using f
    have a:Hid (z=ζ):=zb (by rw[uh h];simp;omega);go_in;go_wp2_with fail;go_call d as e w1 ⟨rfl,rfl⟩;go_wp2;go_ret;exact⟨by rw[uh a];rfl,rfl⟩
def Vq(x y:List UInt8):Bool:=Yl x y || Yl y x
theorem zko(x y:Bs)(w:Wo):
  δ Tryz.prog 51 #[x,y] w fun e w'=>e=ε (θ (Vq x.data.toList y.data.toList))/\w=w':=by
 have d:=zb (za9 x y w);have f:=zb (za9 y x w);have HR:Hid (Vq x.data.toList y.data.toList=(Yl x.data.toList y.data.toList || Yl y.data.toList x.data.toList)):=rfl;generalize Yl x.data.toList y.data.toList=a at *;generalize Yl y.data.toList x.data.toList=b at *
 cases a with
 | true=>
  go_in;go_wp2_with fail;go_call d as e w1 ⟨rfl,rfl⟩;go_wp2;go_ret;exact⟨by rw[uh HR];rfl,rfl⟩
 | false=>
  go_in;go_wp2_with fail;go_call d as e w1 ⟨rfl,rfl⟩;go_wp2_with fail;go_call f as e w1 ⟨rfl,rfl⟩;go_wp2;go_ret;exact⟨by rw[uh HR];rfl,rfl⟩
def Ke(xs ys:List (List UInt8)):Bool:=xs.any fun x=>ys.any fun y=>Vq x y
theorem zkp(a b:List Bs):Ke (YA a) (YA b)=WG (a.map (·.data.toList)) (b.map (·.data.toList)):=by
 unfold Ke WG YA;rw[Γ,List.any_filter,Γ];congr 1;funext x;simp only[Function.comp_apply];rw[Γ,List.any_filter,Γ]
 cases hx:(zH x.data.toList).isSome with
 | false=>
  have h:∀ y,Vd x.data.toList y=ζ:=fun y=>by unfold Vd;rw[hx];rfl
  simp[Function.comp_def,h]
 | true=>
  rw[Bool.true_and];congr 1;funext y;simp[Vd,Vq,hx]
def Qf(a b:List Bs):Bool:=if a.length<=1000/\b.length<=1000 then WG (a.map (·.data.toList)) (b.map (·.data.toList))else ζ
theorem zba{l:List (List UInt8)}(h:k<l.length):l.getD k []∈l:=by simp[Κ,h]
theorem zkq(xa ya:Option Addr)(xb xo xc yb yo yc:Nat)(a b:List Bs)(w:Wo)(hML:ML w)(h:SS w xa xb xo a)(k:SS w ya yb yo b)(ha:Vp a)(hb:Vp b):
  δ Tryz.prog 17 #[ς xa a.length xc,ς ya b.length yc] w fun e w'=>e=ε (θ (Qf a b))/\Below w w w':=by
 by_cases u:a.length<=1000
 .by_cases v:b.length<=1000
  .have HR:Hid (Qf a b=Ke (YA a) (YA b)):=by show _=_;rw[zkp];unfold Qf;rw[yg ⟨u,v⟩]
   have S:=zb (za8 xa xb xo xc a w hML h ha);have T:=zb fun w' (h':Below w w w')=>za8 ya yb yo yc b w' (hML.below h') (k.below h') hb;have W:=LR a;have X:=LR b;generalize YA a=g at *;generalize YA b=d at *;go_in;go_wp2_with fail;go_call S as e w1 ⟨v1,rfl,o1,b1⟩;have C:=zb (uh T w1 b1);go_wp2_with fail;go_call C as e w2 ⟨v2,rfl,o2,b2⟩;have I:=Zh o1 b2;have J:=zh b1 b2;obtain⟨x1,g1,c1,rfl,s1,_⟩:=OT.shape I;obtain⟨x2,g2,c2,rfl,s2,_⟩:=OT.shape o2;have O:=s1.ad;have P:=s2.ad;have K:=zb s1.cell;have L:=zb s2.cell;simp only[yl]at O P K L;go_wp2;go_loopw [25] (fun i wr=>∃ n:Nat,n<=g.length/\i=ι κ n/\(∀ j,j<n->∀ m,m<d.length->Vq (g.getD j []) (d.getD m [])=ζ)/\w2=wr) (fun i _=>g.length - (intOf i).toNat)
   case atStart=>exact⟨0,yu _,rfl,fun j s=>om,rfl⟩
   case round=>
    obtain⟨n,hn,rfl,H,rfl⟩:=hrel;have N:=zb H;by_cases o:n<g.length
    .have F:=uh K n o;rw[Ow o,Nat.zero_add]at F;obtain rfl:=O om;have Q:(n:Int)<(g.length:Int):=om;have V:Hid (∀ m,m<d.length->Vq (g.getD n []) (d.getD m [])=ξ->Ke g d=ξ):=fun m z e=>by
      unfold Ke;rw[Θ];refine⟨_,zba o,?_⟩;rw[Θ];exact⟨_,zba z,e⟩
     generalize hp:g.getD n []=p at *;have U:=zb hp;go_wp2;go_loopw [31] (fun i wr=>∃ m:Nat,m<=d.length/\i=ι κ m/\(∀ j,j<m->Vq p (d.getD j [])=ζ)/\w2=wr) (fun i _=>d.length - (intOf i).toNat)
     case atStart=>exact⟨0,yu _,rfl,fun j s=>om,rfl⟩
     case round=>
      obtain⟨m,z,rfl,A,rfl⟩:=hrel;have M:=zb A;by_cases f:m<d.length
      .have G:=uh L m f;rw[Ow f,Nat.zero_add]at G;obtain rfl:=P om;have R:(m:Int)<(d.length:Int):=om;have D:=zb (uh V m f);have l:Hid (Vq p (d.getD m [])=ζ->∀ j,j<m+1->Vq p (d.getD j [])=ζ):=fun e j s=>by
        by_cases E:j=m
        .subst E;exact e
        .exact uh M j om
       generalize d.getD m []=q at *;have B:Hid (δ Tryz.prog 51 #[(zG p),(zG q)] w2 (Rk (θ (Vq p q)) w2)):=zb (by
        have:=zko (zG p) (zG q) w2;simpa [zG]using this)
       cases h1:Vq p q with
       | true=>
        rw[h1]at B;have r:=zb (uh D h1);go_wp2_with fail;go_call B as e w3 ⟨rfl,rfl⟩;go_wp2;go_ret;exact⟨by rw[uh HR,uh r];rfl,J⟩
       | false=>
        rw[h1]at B;have r:=zb (uh l h1);go_wp2_with fail;go_call B as e w3 ⟨rfl,rfl⟩;go_wp2;go_roundw
        case rel=>exact⟨m+1,om,by go_num,r,trivial⟩
        case measure=>simp[intOf];omega
      .have l:Hid (∀ j,j<n+1->∀ m,m<d.length->Vq (g.getD j []) (d.getD m [])=ζ):=fun j s m' hm'=>by
        by_cases E:j=n
        .subst E;rw[uh U];exact uh M m' om
        .exact uh N j om m' hm'
       go_wp2;go_roundw
       case rel=>exact⟨n+1,om,by go_num,l,trivial⟩
       case measure=>simp[intOf];omega
    .have r:Hid (Ke g d=ζ):=by
      show _=_
      unfold Ke;rw[Η];intro x hx;rw[Ι,Η];intro y Y;obtain⟨j,s,rfl⟩:=Β hx;obtain⟨m,z,rfl⟩:=Β Y;have:=uh N j om m z;rw[Ι];simpa [Κ,s,z]using this
     go_wp2;go_ret;exact⟨by rw[uh HR,uh r];rfl,J⟩
  .have HR:Hid (Qf a b=ζ):=by show _=_;unfold Qf;rw[yf (fun e=>v e.2)]
   have Z:¬ (1000:Int)<(a.length:Int):=om;have t2:(1000:Int)<(b.length:Int):=om;go_in;go_wp2;go_ret;exact⟨by rw[uh HR];rfl,yI _ _⟩
 .have HR:Hid (Qf a b=ζ):=by show _=_;unfold Qf;rw[yf (fun e=>u e.1)]
  have Z:(1000:Int)<(a.length:Int):=om;go_in;go_wp2;go_ret;exact⟨by rw[uh HR];rfl,yI _ _⟩
theorem zbb(o:Option (List (List UInt8))):(o.isSome=ζ/\o=ν)∨∃ ts,o=η ts:=by cases o with
 | none=>exact .inl ⟨rfl,rfl⟩
 | some t=>exact .inr ⟨t,rfl⟩
theorem zkr(s t:Bs)(w:Wo)(hs:s.size<=1048576)(ht:t.size<=1048576):
  δ Tryz.prog 157 #[s,t] w fun e w'=>e=ε (ι κ (GV (zH s.data.toList) (zH t.data.toList)))/\Below w w w':=by
 have l:=PO s.data.toList;have o:=PO t.data.toList;rw[Zo]at l o;have g:=zb (WE s w hs);have j:=zb fun w=>WE t w ht;generalize zH s.data.toList=h at *;generalize zH t.data.toList=f at *;rcases zbb h with ⟨k,rfl⟩ |⟨a,rfl⟩
 .have HR:Hid (GV ν f= -1):=rfl;simp only[Option.isSome_none,Option.getD_none]at g;go_in;go_wp2_with fail;go_call g as e w1 ⟨v0,rfl,h,b1⟩;go_wp2_with fail;go_call uh j _ as e w2 ⟨v1,rfl,f,b2⟩;have i:=zh b1 b2;go_wp2;go_ret;exact⟨by rw[uh HR];rfl,i⟩
 .rcases zbb f with ⟨k,rfl⟩ |⟨b,rfl⟩
  .have HR:Hid (GV (η a) none= -1):=rfl;simp only[Option.isSome_none,Option.getD_none,Option.isSome_some,Option.getD_some]at g j;go_in;go_wp2_with fail;go_call g as e w1 ⟨v0,rfl,h,b1⟩;go_wp2_with fail;go_call uh j _ as e w2 ⟨v1,rfl,f,b2⟩;have i:=zh b1 b2;go_wp2;go_ret;exact⟨by rw[uh HR];rfl,i⟩
  .simp only[Option.isSome_some,Option.getD_some]at g j l o;have HR:Hid (GV (η a) (η b)=if qe a b=ξ/\qe b a=ξ then 1 else if qe a b=ξ then 2 else if qe b a=ξ then 3 else 0):=rfl;go_in;go_wp2_with fail;go_call g as e w1 ⟨v0,rfl,h,b1⟩;go_wp2_with fail;go_call uh j _ as e w2 ⟨v1,rfl,f,b2⟩;have i:=zh b1 b2;have p:Hid (∀ n,δ Tryz.prog 116 #[v0,v1] (w2.drewN n) fun e w'=>e=ε (θ (qe a b))/\∃ n,w'=w2.drewN n):=fun n=>(Rv v0 v1 a b (w2.drewN n) (Zh h (b2.trans (XO _ _ _))) f om om).mono (by rintro e w' ⟨k,m,rfl⟩;exact⟨k,_,World.drewN_drewN ..⟩);have q:Hid (∀ n,δ Tryz.prog 116 #[v1,v0] (w2.drewN n) fun e w'=>e=ε (θ (qe b a))/\∃ n,w'=w2.drewN n):=fun n=>(Rv v1 v0 b a (w2.drewN n) f (Zh h (b2.trans (XO _ _ _))) om om).mono (by rintro e w' ⟨k,m,rfl⟩;exact⟨k,_,World.drewN_drewN ..⟩);generalize qe a b=x at *;generalize qe b a=y at *;go_wp2_with fail;go_call uh p 0 as e w3 ⟨rfl,n3,rfl⟩;have r:∀ n,Below w w (w2.drewN n):=fun n=>i.trans (XO _ _ _);have d:=zb r
   cases x<;>cases y
   .go_wp2_with fail;go_call uh p _ as e w4 ⟨rfl,n4,rfl⟩;go_wp2_with fail;go_call uh q _ as e w5 ⟨rfl,n5,rfl⟩;go_wp2;go_ret;exact⟨by rw[uh HR];rfl,uh d _⟩
   .go_wp2_with fail;go_call uh p _ as e w4 ⟨rfl,n4,rfl⟩;go_wp2_with fail;go_call uh q _ as e w5 ⟨rfl,n5,rfl⟩;go_wp2;go_ret;exact⟨by rw[uh HR];rfl,uh d _⟩
   .go_wp2_with fail;go_call uh q _ as e w4 ⟨rfl,n4,rfl⟩;go_wp2_with fail;go_call uh p _ as e w5 ⟨rfl,n5,rfl⟩;go_wp2;go_ret;exact⟨by rw[uh HR];rfl,uh d _⟩
   .go_wp2_with fail;go_call uh q _ as e w4 ⟨rfl,n4,rfl⟩;go_wp2;go_ret;exact⟨by rw[uh HR];rfl,uh d _⟩
theorem zks(xa ya:Option Addr)(xb xo xc yb yo yc:Nat)(a b:List Bs)(w:Wo)(h:SS w xa xb xo a)(k:SS w ya yb yo b)(ha:Vp a)(hb:Vp b):
  δ Tryz.prog 101 #[ς xa a.length xc,ς ya b.length yc] w fun e w'=>e=ε (θ (Qf a b))/\Below w w w':=by
 by_cases u:a.length<=1000
 .by_cases v:b.length<=1000
  .have HR:Hid (Qf a b=WG (a.map (·.data.toList)) (b.map (·.data.toList))):=by show _=_;unfold Qf;rw[yg ⟨u,v⟩]
   have U:=zb h;have V:=zb k;have Z:=h.ad;have a2:=k.ad;have S:=zb ha;have T:=zb hb;go_in;go_wp2;go_loopw [5] (fun i wr=>∃ n:Nat,n<=a.length/\i=ι κ n/\(∀ j,j<n->∀ m,m<b.length->Vd (a.getD j Α).data.toList (b.getD m Α).data.toList=ζ)/\Below w w wr) (fun i _=>a.length - (intOf i).toNat)
   case atStart=>exact⟨0,yu _,rfl,fun j s=>om,yI _ _⟩
   case round=>
    obtain⟨n,hn,rfl,I,B⟩:=hrel;have M:=zb I;by_cases g:n<a.length
    .obtain rfl:=Z om;have O:(n:Int)<(a.length:Int):=om;have J:=S.at g;have Y:Hid (∀ m,m<b.length->Vd (a.getD n Α).data.toList (b.getD m Α).data.toList=ξ->WG (a.map (·.data.toList)) (b.map (·.data.toList))=ξ):=fun m A e=>by
      unfold WG;rw[Γ,Θ];refine⟨a.getD n Α,by simp[Κ,g],?_⟩;simp only[Function.comp_apply];rw[Γ,Θ];exact⟨b.getD m Α,by simp[Κ,A],e⟩
     have R:=zb fun (X:Wo) (hX:Below w w X)=>(U.below hX).cell n g;generalize hp:a.getD n Α=p at *;have W:=zb hp;have E:=zb B;go_wp2;go_loopw [6] (fun i wr=>∃ m:Nat,m<=b.length/\i=ι κ m/\(∀ j,j<m->Vd p.data.toList (b.getD j Α).data.toList=ζ)/\Below w w wr) (fun i _=>b.length - (intOf i).toNat)
     case atStart=>exact⟨0,yu _,rfl,fun j s=>om,E⟩
     case round=>
      obtain⟨m,A,rfl,C,B⟩:=hrel;have L:=zb C;by_cases d:m<b.length
      .obtain rfl:=a2 om;have P:(m:Int)<(b.length:Int):=om;have K:=T.at d;have c1:=uh R _ B.drew;have c2:=(V.below B.drew).cell m d;have F:=zb (uh Y m d);have f:Hid (Vd p.data.toList (b.getD m Α).data.toList=ζ->∀ j,j<m+1->Vd p.data.toList (b.getD j Α).data.toList=ζ):=fun e j s=>by
        by_cases G:j=m
        .subst G;exact e
        .exact uh L j om
       generalize b.getD m Α=q at *;have N:=zb fun w=>zkr p q w J K;have H:=zcc p.data.toList q.data.toList;generalize GV (zH p.data.toList) (zH q.data.toList)=z at *;have o:=zb H;have l:=zb B;by_cases Q:0<z
       .have r:=zb (uh F (by rw[uh o];exact yj Q));go_wp2_with fail;go_region_law (go_simp;go_call uh N _ as e w2 ⟨rfl,b2⟩;have D:=zh (l.drew) b2)
        all_goals
         go_wp2;go_ret;exact⟨by rw[uh HR,uh r];rfl,D⟩
       .have r:=zb (uh f (by rw[uh o];exact yk Q));go_wp2_with fail;go_region_law (go_simp;go_call uh N _ as e w2 ⟨rfl,b2⟩;have D:=zh (l.drew) b2)
        all_goals
         go_wp2;go_roundw
        all_goals first
         | exact⟨m+1,om,by go_num,r,D⟩
         |(simp[intOf];omega)
      .have f:Hid (∀ j,j<n+1->∀ m,m<b.length->Vd (a.getD j Α).data.toList (b.getD m Α).data.toList=ζ):=fun j s m' hm'=>by
        by_cases G:j=n
        .subst G;rw[uh W];exact uh L m' om
        .exact uh M j om m' hm'
       go_wp2;go_roundw
       case rel=>exact⟨n+1,om,by go_num,f,B⟩
       case measure=>simp[intOf];omega
    .have r:Hid (WG (a.map (·.data.toList)) (b.map (·.data.toList))=ζ):=by
      show _=_
      unfold WG;rw[Γ,Η];intro x hx;rw[Ι];simp only[Function.comp_apply];rw[Γ,Η];intro y hy;obtain⟨j,s,rfl⟩:=Β hx;obtain⟨m,A,rfl⟩:=Β hy;have:=uh M j om m A;rw[Ι];simpa [Κ,s,A]using this
     go_wp2;go_ret;exact⟨by rw[uh HR,uh r];rfl,B⟩
  .have HR:Hid (Qf a b=ζ):=by show _=_;unfold Qf;rw[yf (fun e=>v e.2)]
   have t1:¬ (1000:Int)<(a.length:Int):=om;have t2:(1000:Int)<(b.length:Int):=om;go_in;go_wp2;go_ret;exact⟨by rw[uh HR];rfl,yI _ _⟩
 .have HR:Hid (Qf a b=ζ):=by show _=_;unfold Qf;rw[yf (fun e=>u e.1)]
  have t1:(1000:Int)<(a.length:Int):=om;go_in;go_wp2;go_ret;exact⟨by rw[uh HR];rfl,yI _ _⟩
