import Derived.Test.YtpaecnbdoljafaaGreatDoorBp26
import Derived.Test.YtpaecnbdoljafaaGreatDoorBp1
set_option maxRecDepth 100000
set_option maxHeartbeats 8000000
namespace Go.Proofs.YtpaecnbdoljafaaGreatDoor
open Go.RowKit Go.Maps Go.Sort Go.Shelf Go.Proofs.Tryz
theorem CX(m:Nat):AnyZ.SortsIn prog Tryz.sortedA_ren Fence.wide m:=
 ⟨fun blk off cap ss W hH hblk hsz=>callsIn_wide.2 (AnyM.slices_Sort_string Tryz.sortA blk off cap ss W hH hblk hsz),
  fun p cap W=>callsIn_wide.2 (AnyM.slices_Sort_string_none Tryz.sortA p cap W)⟩
theorem CY{H:Type}(ob b nn:Nat)(D0:DataW H)(R:Value->Option (DataW H×List MemPlace))(w:Wo)(hob:w.cell? ⟨ob,0,none⟩=some (.map (some b)))(hown:w.ownsMap prog 9 R b nn D0)(hmax:Maps.size D0<=maxLen)(hbytes:Maps.size D0*16<=140737488355328):
  Calls prog 199 #[.pointer (some ⟨ob,0,none⟩)] w fun e w'=>∃ (v:Value) (ss:List (List UInt8)),e= .returned v/\ss.Perm (strKeys D0) /\
   w'.ownsRow w.heap.size 9 1 v ss.length ((ss.mergeSort (fun x y=>decide (x<=y))).map encStr)/\(v= .slice none 0 0↔ss=[])/\Bw w w':=by
 refine (callsIn_wide (n:=6)).1 ?_;have i:=hown.lt;have g:SeqGives Fence.wide 2 prog 250 #[.pointer (some ⟨w.heap.size,0,none⟩)] encStr (fun ss=>ss.Perm (strKeys D0)) (Maps.size D0) (w.alloc (.cells #[.map (some b)] 172)):=
  AnyZ.keys_gives (ρ:=Tryz.keysA_ren) {Tryz.keysA with} Fence.wide _ trivial rfl (by omega) w.heap.size b nn D0 _ (by simp) (by simp) (by
   obtain⟨m,a,h,k,s,o⟩:=hown;exact⟨m,a,(Below.heap_alloc _ _ b i).trans h,k,s,o⟩)
 have l:∀ mb W,CallsIn Fence.wide 5 prog 228 #[.map mb] W fun e w'=>e= .returned (.func (.func 250) #[] #[.pointer (some ⟨W.heap.size,0,none⟩)])/\w'=W.alloc (.cells #[.map mb] 172):=fun mb W=>AnyZ.keys_in Tryz.keysA Fence.wide 5 trivial rfl mb W;have j:=AnyZ.sorted_in Tryz.sortedA Fence.wide 5 trivial trivial trivial trivial rfl (by omega) (CX _) (enters_of func49 (by kernel_rfl) rfl) 250 #[.pointer (some ⟨w.heap.size,0,none⟩)] trivial (enters_of func250 (by kernel_rfl) rfl) _ _ hmax hbytes _ g;change CallsIn _ _ prog 227 _ _ _ at j;have q:Fence.wide.fn 228:=trivial;have r:Fence.wide.fn 227:=trivial;refine callsIn_of_wp func199 rfl trivial ?_ rfl;simp only[ntmps199,List.size_toArray,ym,yC,Nat.reduceAdd,Nat.reduceSub,Array.replicate_succ,Array.replicate_zero,List.push_toArray,List.append_toArray,List.nil_append,List.cons_append]
 gi_wp2_with (first
  |(gi_at_call 228;refine (l _ _).mono ?_;rintro e w' ⟨rfl,rfl⟩)
  |(gi_at_call 227;refine j.mono ?_;rintro e w' ⟨v,ss,rfl,p,f,d,h⟩))
 go_ret;exact⟨v,ss,rfl,p,ownsRow_base_a f (by simp),d,((yG _ w).alloc (yd _) _).trans (h.mono (by simp))⟩
end Go.Proofs.YtpaecnbdoljafaaGreatDoor
