import Derived.Lib.SplitLaws
import Derived.Test.YtbcfkkicmmhhcaaDoorBd1
import Derived.Shelf.Strings.Builder1
import Derived.WalkKit
import Derived.Test.YtbcfkkicmmhhcaaDoorRows
namespace Go.Proofs.YtbcfkkicmmhhcaaDoor
open Go.RowKit

def unesc : List UInt8 → Option (List UInt8)
  | [] => some []
  | c :: r =>
    if c.toNat = 126 then
      match r with
      | [] => none
      | d :: r' => if d.toNat = 48 then (unesc r').map (126 :: ·) else if d.toNat = 49 then (unesc r').map (47 :: ·) else none
    else (unesc r).map (c :: ·)

theorem unesc_lit {c : UInt8} (r : List UInt8) (h : ¬ (c.toNat : Int) = 126) : unesc (c :: r) = (unesc r).map ([c] ++ ·) := by
  rw [unesc.eq_def]; simp only; rw [if_neg (by omega)]; rfl
theorem unesc_end {c : UInt8} (h : (c.toNat : Int) = 126) : unesc [c] = none := by
  rw [unesc.eq_def]; simp only; rw [if_pos (by omega)]
theorem unesc_0 {c d : UInt8} (r : List UInt8) (h : (c.toNat : Int) = 126) (h' : (d.toNat : Int) = 48) : unesc (c :: d :: r) = (unesc r).map ([126] ++ ·) := by
  rw [unesc.eq_def]; simp only; rw [if_pos (by omega), if_pos (by omega)]; rfl
theorem unesc_1 {c d : UInt8} (r : List UInt8) (h : (c.toNat : Int) = 126) (h' : (d.toNat : Int) = 49) : unesc (c :: d :: r) = (unesc r).map ([47] ++ ·) := by
  rw [unesc.eq_def]; simp only; rw [if_pos (by omega), if_neg (by omega), if_pos (by omega)]; rfl
theorem unesc_bad {c d : UInt8} (r : List UInt8) (h : (c.toNat : Int) = 126) (h' : ¬ (d.toNat : Int) = 48) (h'' : ¬ (d.toNat : Int) = 49) : unesc (c :: d :: r) = none := by
  rw [unesc.eq_def]; simp only; rw [if_pos (by omega), if_neg (by omega), if_neg (by omega)]

/-- What is read up to place j: acc; what is left gives the rest. -/
def UnAt (l : List UInt8) (j : Nat) (acc : List UInt8) : Prop := unesc l = (unesc (l.drop j)).map (acc ++ ·)
theorem UnAt.start (l : List UInt8) : UnAt l 0 [] := by simp [UnAt]
theorem UnAt.step {l : List UInt8} {j k : Nat} {acc m : List UInt8} (h : UnAt l j acc) (hs : unesc (l.drop j) = (unesc (l.drop k)).map (m ++ ·)) : UnAt l k (acc ++ m) := by
  unfold UnAt at *; rw [h, hs, Option.map_map]; congr 1; funext x; simp
theorem UnAt.bad {l : List UInt8} {j : Nat} {acc : List UInt8} (h : UnAt l j acc) (hs : unesc (l.drop j) = none) : unesc l = none := by
  unfold UnAt at h; rw [h, hs]; rfl
theorem UnAt.fin {l : List UInt8} {j : Nat} {acc : List UInt8} (h : UnAt l j acc) (hj : l.length ≤ j) : unesc l = some acc := by
  unfold UnAt at h; rw [h, List.drop_eq_nil_of_le hj]; simp [unesc]

theorem drop_at (s : ByteArray) (j : Nat) (h : j < s.size) : s.data.toList.drop j = s[j] :: s.data.toList.drop (j + 1) := by
  rw [List.drop_eq_getElem_cons (by rw [data_len]; exact h)]; rfl
theorem drop_end (s : ByteArray) (j : Nat) (h : ¬ j < s.size) : s.data.toList.drop j = [] := List.drop_eq_nil_of_le (by rw [data_len]; omega)

def tokRes (o : Option (List UInt8)) : Value := .tuple #[.string ⟨(o.getD []).toArray⟩, .bool o.isSome]

def pieces : List UInt8 → List (List UInt8)
  | [] => [[]]
  | c :: r => if c.toNat = 47 then [] :: pieces r else (match pieces r with | [] => [[c]] | p :: ps => (c :: p) :: ps)
theorem pieces_ne (l : List UInt8) : pieces l ≠ [] := by
  cases l with
  | nil => simp [pieces]
  | cons c r =>
    rw [pieces]; split
    · simp
    · split <;> simp
theorem pieces_cut {c : UInt8} (r : List UInt8) (h : c.toNat = 47) : pieces (c :: r) = [] :: pieces r := by rw [pieces, if_pos h]
theorem pieces_go {c : UInt8} {r p : List UInt8} {ps : List (List UInt8)} (h : ¬ c.toNat = 47) (hr : pieces r = p :: ps) : pieces (c :: r) = (c :: p) :: ps := by rw [pieces, if_neg h, hr]

theorem split_eq : ∀ l : List UInt8, Lib.splitK [47] 0 (Lib.count l [47]) l = pieces l
  | [] => by rw [Lib.count_miss (by simp [Lib.index])]; rfl
  | c :: r => by
    have ih := split_eq r
    by_cases h : c = 47
    · subst h
      have hix : Lib.index (47 :: r) [47] = ((0 : Nat) : Int) := by rw [Lib.index]; simp [List.isPrefixOf]
      rw [Lib.count_cons_eq, Nat.add_comm, Lib.splitK, hix]
      rw [pieces_cut r (by decide), ← ih]
      simp
    · have hp : ([47] : List UInt8).isPrefixOf (c :: r) = false := by simp [List.isPrefixOf, Ne.symm h]
      have hix : Lib.index (c :: r) [47] = if Lib.index r [47] == -1 then -1 else Lib.index r [47] + 1 := by rw [Lib.index, hp]; simp
      have hn : ¬ c.toNat = 47 := fun e => h (by have := UInt8.ofNat_toNat (x := c); rw [e] at this; exact this.symm)
      rw [Lib.count_cons_ne c 47 r h]
      by_cases hm : Lib.index r [47] = -1
      · rw [Lib.count_miss hm] at ih ⊢
        rw [Lib.splitK] at ih ⊢
        rw [pieces_go hn ih.symm]
      · have hge := Lib.index_ge r [47]
        obtain ⟨j, hj⟩ : ∃ j : Nat, Lib.index r [47] = j := ⟨(Lib.index r [47]).toNat, by omega⟩
        have hix' : Lib.index (c :: r) [47] = ((j + 1 : Nat) : Int) := by rw [hix, if_neg (fun e => hm (beq_iff_eq.1 e)), hj]; omega
        rw [Lib.count_hit (by simp) hj, Nat.add_comm] at ih ⊢
        rw [Lib.splitK, hj] at ih
        rw [Lib.splitK, hix']
        rw [if_neg (fun e => by have := beq_iff_eq.1 e; omega)] at ih ⊢
        simp only [Int.toNat_natCast, Nat.add_zero] at ih ⊢
        rw [pieces_go hn ih.symm]
        simp

theorem splitB_pieces (s : ByteArray) : (Lib.splitB ⟨#[47]⟩ 0 (Lib.countB s ⟨#[47]⟩) s).map (·.data.toList) = pieces s.data.toList := by
  rw [Lib.splitB_data]; exact split_eq _

/-- The tokens of a pointer. -/
def toks (l : List UInt8) : Option (List (List UInt8)) := (pieces l).mapM unesc
def ptoks : List UInt8 → Option (List (List UInt8))
  | [] => some []
  | c :: r => if c.toNat = 47 then toks r else none
end Go.Proofs.YtbcfkkicmmhhcaaDoor

namespace Go.Proofs.YtbcfkkicmmhhcaaDoor
open Go.RowKit

theorem infoString : (Tryd.prog.info? 9).map (fun i => (i.zero, i.size, i.bytes)) = some (some (.string ByteArray.empty), 1, 16) := by kernel_rfl

def tokCell (t : List UInt8) : Value := .string ⟨t.toArray⟩
abbrev OT (w : World) (B : Nat) (v : Value) (ts : List (List UInt8)) : Prop := w.ownsRow B 9 1 v ts.length (ts.map tokCell)
def baT (t : List UInt8) : ByteArray := ⟨t.toArray⟩

theorem OT.shape {w : World} {B : Nat} {v : Value} {ts : List (List UInt8)} (h : OT w B v ts) : ∃ a g cap, v = .slice a ts.length cap ∧ SS w a g 0 (ts.map baT) ∧ (0 < ts.length → B ≤ g) := by
  rcases h.2 with ⟨hv, h0⟩ | ⟨g, cap, cur, hv, hb, hg, _⟩
  · exact ⟨none, 0, 0, by rw [hv, h0], ⟨fun h => by rw [List.length_map] at h; omega, fun j hj => by rw [List.length_map] at hj; omega⟩, fun h => by omega⟩
  · refine ⟨some ⟨g, 0, none⟩, g, cap, hv, ⟨fun _ => rfl, fun j hj => ?_⟩, fun _ => hb⟩
    subst hv
    rw [List.length_map] at hj
    rw [Nat.zero_add, h.cellAt j (by omega)]
    simp [tokCell, baT, hj]

theorem one_tok (s : ByteArray) : ∀ u ∈ [Value.string s], u.oneCell' = true := by intro u hu; simp at hu; subst hu; rfl
theorem OT.step {w : World} {B : Nat} {v : Value} {ts : List (List UInt8)} {t : List UInt8} (h : w.ownsRow B 9 1 v (ts.length + 1) (ts.map tokCell ++ [tokCell t])) : OT w B v (ts ++ [t]) := by
  unfold OT; rw [List.length_append, List.map_append]; exact h

theorem tokRes_some (t : List UInt8) : tokRes (some t) = .tuple #[.string (baT t), .bool true] := rfl
theorem tokRes_none : tokRes none = .tuple #[.string ⟨#[]⟩, .bool false] := rfl

/-- No slash from place f up to place k. -/
def NoSl (l : List UInt8) (f k : Nat) : Prop := ∀ m, f ≤ m → m < k → ∀ c, l[m]? = some c → ¬ c.toNat = 47
theorem pieces_app {p : List UInt8} (hp : ∀ c ∈ p, ¬ c.toNat = 47) {c : UInt8} (hc : c.toNat = 47) (r : List UInt8) : pieces (p ++ c :: r) = p :: pieces r := by
  induction p with
  | nil => exact pieces_cut r hc
  | cons a p ih =>
    have := ih (fun c hc => hp c (List.mem_cons_of_mem _ hc))
    exact pieces_go (hp a List.mem_cons_self) this
theorem pieces_one {p : List UInt8} (hp : ∀ c ∈ p, ¬ c.toNat = 47) : pieces p = [p] := by
  induction p with
  | nil => rfl
  | cons a p ih =>
    have := ih (fun c hc => hp c (List.mem_cons_of_mem _ hc))
    exact pieces_go (hp a List.mem_cons_self) this
theorem NoSl.piece {l : List UInt8} {f k : Nat} (h : NoSl l f k) : ∀ c ∈ (l.drop f).take (k - f), ¬ c.toNat = 47 := by
  intro c hc
  obtain ⟨i, hi, rfl⟩ := List.mem_iff_getElem.1 hc
  rw [List.length_take, List.length_drop] at hi
  refine h (f + i) (by omega) (by omega) _ ?_
  rw [List.getElem_take, List.getElem_drop, List.getElem?_eq_getElem (by omega)]
theorem NoSl.cut {l : List UInt8} {f k : Nat} (h : NoSl l f k) (hfk : f ≤ k) (hk : k < l.length) (hc : l[k].toNat = 47) : pieces (l.drop f) = (l.drop f).take (k - f) :: pieces (l.drop (k + 1)) := by
  have e : l.drop f = (l.drop f).take (k - f) ++ l[k] :: l.drop (k + 1) := by
    have h1 := (List.take_append_drop (k - f) (l.drop f)).symm
    rw [List.drop_drop, show f + (k - f) = k from by omega, List.drop_eq_getElem_cons hk] at h1
    exact h1
  have h2 := pieces_app h.piece hc (l.drop (k + 1))
  rw [← e] at h2
  exact h2
theorem NoSl.last {l : List UInt8} {f : Nat} (h : NoSl l f l.length) : pieces (l.drop f) = [l.drop f] := by
  have hp := h.piece
  rw [List.take_of_length_le (by rw [List.length_drop]; omega)] at hp
  exact pieces_one hp
theorem NoSl.snoc {l : List UInt8} {f k : Nat} (h : NoSl l f k) (hk : k < l.length) (hc : ¬ l[k].toNat = 47) : NoSl l f (k + 1) := by
  intro m h1 h2 c hm
  by_cases e : m = k
  · subst e; rw [List.getElem?_eq_getElem hk] at hm; simp at hm; subst hm; exact hc
  · exact h m h1 (by omega) c hm
theorem NoSl.none (l : List UInt8) (k : Nat) : NoSl l k k := fun m h1 h2 => by omega

theorem toks_cons {l p : List UInt8} {ps : List (List UInt8)} (h : pieces l = p :: ps) : toks l = (unesc p).bind fun t => (ps.mapM unesc).map (t :: ·) := by
  unfold toks; rw [h, List.mapM_cons]
  cases unesc p with
  | none => rfl
  | some t => cases List.mapM unesc ps <;> rfl

/-- The tokens behind place f, with those that are read already. -/
def TkAt (l : List UInt8) (f : Nat) (done : List (List UInt8)) : Prop := toks (l.drop 1) = (toks (l.drop f)).map (done ++ ·)
theorem TkAt.cut {l : List UInt8} {f k : Nat} {done : List (List UInt8)} {t : List UInt8} (h : TkAt l f done) (hn : NoSl l f k) (hfk : f ≤ k) (hk : k < l.length) (hc : l[k].toNat = 47) (hu : unesc ((l.drop f).take (k - f)) = some t) : TkAt l (k + 1) (done ++ [t]) := by
  unfold TkAt at *
  rw [h, toks_cons (hn.cut hfk hk hc), hu]
  show Option.map (done ++ ·) (Option.map (t :: ·) (toks (l.drop (k + 1)))) = _
  rw [Option.map_map]; congr 1; funext x; simp
theorem TkAt.cutBad {l : List UInt8} {f k : Nat} {done : List (List UInt8)} (h : TkAt l f done) (hn : NoSl l f k) (hfk : f ≤ k) (hk : k < l.length) (hc : l[k].toNat = 47) (hu : unesc ((l.drop f).take (k - f)) = none) : toks (l.drop 1) = none := by
  unfold TkAt at h; rw [h, toks_cons (hn.cut hfk hk hc), hu]; rfl
theorem TkAt.last {l : List UInt8} {f : Nat} {done : List (List UInt8)} {t : List UInt8} (h : TkAt l f done) (hn : NoSl l f l.length) (hu : unesc ((l.drop f).take (l.length - f)) = some t) : toks (l.drop 1) = some (done ++ [t]) := by
  rw [List.take_of_length_le (by rw [List.length_drop]; omega)] at hu
  unfold TkAt at h; rw [h, toks_cons hn.last, hu]; rfl
theorem TkAt.lastBad {l : List UInt8} {f : Nat} {done : List (List UInt8)} (h : TkAt l f done) (hn : NoSl l f l.length) (hu : unesc ((l.drop f).take (l.length - f)) = none) : toks (l.drop 1) = none := by
  rw [List.take_of_length_le (by rw [List.length_drop]; omega)] at hu
  unfold TkAt at h; rw [h, toks_cons hn.last, hu]; rfl

theorem ptoks_cons {l : List UInt8} (h0 : 0 < l.length) (hc : l[0].toNat = 47) : ptoks l = toks (l.drop 1) := by
  cases l with
  | nil => simp at h0
  | cons c r => simp only [List.getElem_cons_zero] at hc; rw [ptoks, if_pos hc]; rfl
theorem ptoks_bad {l : List UInt8} (h0 : 0 < l.length) (hc : ¬ l[0].toNat = 47) : ptoks l = none := by
  cases l with
  | nil => simp at h0
  | cons c r => simp only [List.getElem_cons_zero] at hc; rw [ptoks, if_neg hc]
theorem extract_toList (s : ByteArray) (f k : Nat) : (s.extract f k).data.toList = (s.data.toList.drop f).take (k - f) := by
  exact Lib.extract_data s f k
end Go.Proofs.YtbcfkkicmmhhcaaDoor

namespace Go.Proofs.YtbcfkkicmmhhcaaDoor
open Go.RowKit

theorem infoBld : (Tryd.prog.info? 170).map (·.size) = some 2 := by kernel_rfl
theorem liesBld : liesAt Tryd.prog Tryd.prog.depth 170 (2 / Tryd.prog.cellsOf 170) 0 170 1 = true := by kernel_rfl
theorem infoByte : (Tryd.prog.info? 5).map (fun i => (i.zero, i.size, i.bytes)) = some (some (.int .u8 0), 1, 1) := by kernel_rfl

set_option maxHeartbeats 1000000 in
set_option maxRecDepth 100000 in
theorem check_used (b : Nat) (w : World) (h0 : w.cell? ⟨b, 0, none⟩ = some (.pointer (some ⟨b, 0, none⟩))) :
    Calls Tryd.prog 136 #[.pointer (some ⟨b, 0, none⟩)] w fun e w' => e = .returned (.tuple #[]) ∧ w' = w := by
  obtain ⟨j, hj, _⟩ := Option.map_eq_some_iff.1 infoBld
  go_enter Tryd.func136, Tryd.ntmps136
  go_wp2
  rw [Lib.run_neq_ptr_same w _ Tryd.underlying168 hj]
  go_wp2
  go_end0
  exact ⟨rfl, rfl⟩

set_option maxHeartbeats 1000000 in
set_option maxRecDepth 100000 in
theorem check_fresh (b : Nat) (w : World) (h0 : w.cell? ⟨b, 0, none⟩ = some (.pointer none)) (hsh : w.shape? b = some (170, 2)) (hfz : w.frozen? ⟨b, 0, none⟩ = false) :
    Calls Tryd.prog 136 #[.pointer (some ⟨b, 0, none⟩)] w fun e w' => e = .returned (.tuple #[]) ∧ w' = w.setCell ⟨b, 0, none⟩ (.pointer (some ⟨b, 0, none⟩)) := by
  obtain ⟨j, hj, hjs⟩ := Option.map_eq_some_iff.1 infoBld
  go_enter Tryd.func136, Tryd.ntmps136
  go_wp2
  rw [Lib.run_to_unsafe w ⟨b, 0, none⟩ Tryd.underlying168 Tryd.underlying183 hj (by rw [hjs]; decide) hsh (Nat.zero_lt_succ 1)]
  simp only [Result.andThen]
  rw [Oper.upon_value]
  go_wp2
  rw [run_callFunc_extern Tryd.func137 (by kernel_rfl) (by kernel_rfl) (by kernel_rfl) (e := Extern.AbiNoEscape.same) (by kernel_rfl)]
  rw [Lib.run_noEscape]
  simp only [Result.andThen]
  rw [Oper.upon_value]
  go_wp2
  rw [Lib.run_from_unsafe w ⟨b, 0, none⟩ Tryd.underlying183 Tryd.underlying168 hj hsh liesBld]
  simp only [Result.andThen]
  rw [Oper.upon_value]
  go_wp2
  go_end0
  exact ⟨rfl, rfl⟩

theorem check (B b : Nat) (bs : List Value) (w : World) (h : Lib.IsBuilder 170 5 B b bs w) :
    Calls Tryd.prog 136 #[.pointer (some ⟨b, 0, none⟩)] w fun e w' => e = .returned (.tuple #[]) ∧ (Lib.BuilderAt 170 5 B b (.pointer (some ⟨b, 0, none⟩)) bs w' ∧ Below B w w') := by
  rcases h with h | h
  · refine (check_fresh b w h.cell0 h.shape h.frozen0).mono ?_
    rintro e w' ⟨rfl, rfl⟩
    exact ⟨rfl, h.used _, (Below.refl B w).setCell (p := ⟨b, 0, none⟩) h.1 _⟩
  · refine (check_used b w h.cell0).mono ?_
    rintro e w' ⟨rfl, rfl⟩
    exact ⟨rfl, h, Below.refl B _⟩

set_option maxHeartbeats 2000000 in
set_option maxRecDepth 100000 in
theorem writeByte (B b : Nat) (bs : List Value) (c : Int) (w : World) (h : Lib.IsBuilder 170 5 B b bs w) (hlen : bs.length + 1 ≤ 140737488355328) (hBw : B ≤ w.heap.size) :
    Calls Tryd.prog 131 #[.pointer (some ⟨b, 0, none⟩), .int .u8 c] w fun e w' => e = .returned .nilIface ∧ (Lib.BuilderAt 170 5 B b (.pointer (some ⟨b, 0, none⟩)) (bs ++ [.int .u8 c]) w' ∧ Below B w w') := by
  obtain ⟨i0, hi, hz0, hz1, hz2⟩ := info_parts infoByte
  go_enter Tryd.func131, Tryd.ntmps131
  go_wp2_with (go_at_call 136; refine (check B b bs _ h).mono ?_)
  rintro e w1 ⟨rfl, h1, hb1⟩
  obtain ⟨hB, v, hbk, hown, hne⟩ := h1
  have c0 : w1.cell? ⟨b, 0, none⟩ = some (.pointer (some ⟨b, 0, none⟩)) := by rw [Lib.cell_of_heap hbk]; rfl
  have c1 : w1.cell? ⟨b, 1, none⟩ = some v := by rw [Lib.cell_of_heap hbk]; rfl
  go_wp2_with (at_builtin; refine wpList_append_own _ rfl _ _ 138 rfl B 5 i0 (.int .u8 0) 1 1 Tryd.underlying138 hi hz0 hz1 hz2 rfl (by decide) _ _ _ rfl (hown.alloc _) ⟨w1.heap.size, 0, none⟩ 1 1 [.int .u8 c] rfl rfl ?c1 ?c2 ?c3 ?c4 ?c5 ?_)
  case c1 =>
    intro j u hj
    match j, hj with
    | 0, hj => simp at hj; subst hj; simp [Addr.add]
  case c2 => intro u hu; simp at hu; subst hu; rfl
  case c3 => unfold maxLen; omega
  case c4 => omega
  case c5 => have := hb1.size; simp; omega
  intro v' w2 hown' hgrow _
  have hlt : b < w1.heap.size := by
    rcases Nat.lt_or_ge b w1.heap.size with h' | h'
    · exact h'
    · simp [Array.getElem?_eq_none h'] at hbk
  have hb2 : w2.heap[b]? = some (.cells #[.pointer (some ⟨b, 0, none⟩), v] 170 (0, 0)) := by
    rw [hgrow.block b (by simp; omega) (fun e => hne e.symm), Lib.alloc_old w1 _ b hlt]
    exact hbk
  have d0 : w2.cell? ⟨b, 0, none⟩ = some (.pointer (some ⟨b, 0, none⟩)) := by rw [Lib.cell_of_heap hb2]; rfl
  have d1 : w2.cell? ⟨b, 1, none⟩ = some v := by rw [Lib.cell_of_heap hb2]; rfl
  have f1 : w2.frozen? ⟨b, 1, none⟩ = false := Lib.frozen_of_heap hb2 1
  obtain ⟨g, cap, rfl⟩ : ∃ g cap, v' = .slice (some ⟨g, 0, none⟩) (bs.length + 1) cap := by
    rcases hown'.2 with ⟨_, h0⟩ | ⟨g, cap, cur, hv, _⟩
    · omega
    · exact ⟨g, cap, hv⟩
  go_wp2
  go_ret
  refine ⟨rfl, ?_, ?_⟩
  · exact Lib.BuilderAt.put (T := 170) (e := 5) hB hb2 (bs' := bs ++ [.int .u8 c]) (by simpa using hown') (by decide)
  · exact ((hb1.alloc (by have := hb1.size; omega) _).grown hgrow (by have := hb1.size; simp; omega) (fun k hk => (hown.lt k hk).1)).setCell (p := ⟨b, 1, none⟩) hB _


def ren169 : Go.Shelf.Ren := ⟨fun | 169 => 132 | n => n, fun | 70 => 168 | 9 => 9 | 0 => 0 | 72 => 170 | 37 => 138 | 127 => 182 | 3 => 3 | 5 => 5 | n => n, fun | n => n⟩
theorem lays169 : Go.Proofs.Lays.n169 Tryd.prog ren169 := {
  mixed := by kernel_rfl
  f169 := Tryd.func132.trans (congrArg some (by kernel_rfl))
  t0 := Tryd.underlying0
  a0 := Tryd.isAgg0
  z0 := Tryd.sizeOf0
  v0 := Tryd.zeroValue0
  t3 := Tryd.underlying3
  a3 := Tryd.isAgg3
  z3 := Tryd.sizeOf3
  v3 := Tryd.zeroValue3
  t9 := Tryd.underlying9
  a9 := Tryd.isAgg9
  z9 := Tryd.sizeOf9
  v9 := Tryd.zeroValue9
  t37 := Tryd.underlying138
  a37 := Tryd.isAgg138
  z37 := Tryd.sizeOf138
  v37 := Tryd.zeroValue138
  t70 := Tryd.underlying168
  a70 := Tryd.isAgg168
  z70 := Tryd.sizeOf168
  v70 := Tryd.zeroValue168
  t72 := Tryd.underlying170
  a72 := Tryd.isAgg170
  z72 := Tryd.sizeOf170
  v72 := Tryd.zeroValue170
  t127 := Tryd.underlying182
  a127 := Tryd.isAgg182
  z127 := Tryd.sizeOf182
  v127 := Tryd.zeroValue182 }
theorem extra169 : Builder.Extra Tryd.prog ren169 := {
  sizeBuilder := by kernel_rfl
  liesBuilder := by kernel_rfl
  t5 := Tryd.underlying5
  a5 := Tryd.isAgg5
  z5 := Tryd.sizeOf5
  v5 := Tryd.zeroValue5
  infoByte := by kernel_rfl
  cellsByte := by kernel_rfl
  sizeByte := by kernel_rfl
  neB5 := by decide }
theorem bldString (B b : Nat) (l : List UInt8) (w : World) (h : Lib.IsBuilder 170 5 B b (Lib.byteCells l) w) (hBw : B ≤ w.heap.size) :
    Calls Tryd.prog 132 #[.pointer (some ⟨b, 0, none⟩)] w fun e w' => e = .returned (.string ⟨l.toArray⟩) ∧ Below B w w' := Any.Builder_String_any lays169 extra169 B b l w h hBw
end Go.Proofs.YtbcfkkicmmhhcaaDoor
