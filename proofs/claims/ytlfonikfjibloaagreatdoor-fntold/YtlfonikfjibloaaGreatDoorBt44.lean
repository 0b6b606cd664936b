import Derived.Test.YtlfonikfjibloaaGreatDoorBt26
import Derived.Test.YtlfonikfjibloaaGreatDoorBt34
import Derived.Test.YtlfonikfjibloaaGreatDoorBt39
import Derived.Test.YtlfonikfjibloaaGreatDoorBt2
import Derived.Test.YtlfonikfjibloaaGreatDoorBt41
import Derived.Test.YtlfonikfjibloaaGreatDoorBt42
import Derived.Test.YtlfonikfjibloaaGreatDoorBt43
import Derived.Test.YtlfonikfjibloaaGreatDoorBt5
namespace Go.Proofs.YtlfonikfjibloaaGreatDoor
open Go.RowKit

set_option maxRecDepth 100000 in
set_option maxHeartbeats 800000 in
theorem isPtrS_walk (s : ByteArray) (w : World) (hsz : s.size ≤ 1048576) :
    Calls Tryz.prog 58 #[.string s] w fun e w' => e = .returned (.bool (ptoks s.data.toList).isSome) ∧ Below w.heap.size w w' := by
  have HT := hide (specToks_walk s w hsz)
  obtain ⟨z, hz⟩ : ∃ z, (ptoks s.data.toList).isSome = z := ⟨_, rfl⟩
  rw [hz] at HT ⊢
  clear hz
  go_enter Tryz.func58, Tryz.ntmps58
  go_wp2_with fail
  refine (unhide HT).mono ?_
  rintro e w1 ⟨v, rfl, o1, b1⟩
  clear HT o1
  cases z
  all_goals (
    go_wp2
    go_ret
    exact ⟨rfl, b1⟩)

/-- The news that were drawn so far. -/
structure NL (w : World) (rb F : Nat) (ov : Value) (ns : List Nws) (nb : List Nat) (wr : World) : Prop where
  bel : Below w.heap.size w wr
  rd : RdIs wr w.heap.size rb
  row : ORow nwsE wr ov ns nb
  fs : Fsh F nb
  ok : ∀ (j : Nat) (n : Nws), ns[j]? = some n → n.ver = (j : Int) + 1 ∧ n.ptrs.length ≤ 3 ∧ ∀ s ∈ n.ptrs, s.size ≤ 40020
  hrb : w.heap.size ≤ rb
  hrF : rb < F
  hF : F ≤ wr.heap.size
/-- News under way: its block G, its pointers. -/
structure NI (w : World) (rb F : Nat) (ov : Value) (ns : List Nws) (nb : List Nat) (G : Nat) (ver : Int) (pv : Value) (ss : List ByteArray) (pb : List Nat) (wr : World) : Prop where
  nl : NL w rb F ov ns nb wr
  kn : wr.heap[G]? = some (.cells #[.int .i64 ver, pv] 53 (0, 0))
  str : OStr wr pv ss pb
  pf : Fsh F pb
  ap : ∀ b ∈ pb, b ∉ nb
  gn : G ∉ nb
  hG : F ≤ G
  len : ss.length ≤ 3
  sz : ∀ s ∈ ss, s.size ≤ 40020
section
variable {w : World} {rb F : Nat} {ov : Value} {ns : List Nws} {nb : List Nat} {wr w1 : World} {G : Nat} {ver : Int} {pv : Value} {ss : List ByteArray} {pb : List Nat}
theorem NL.next (h : NL w rb F ov ns nb wr) (hr : RdIs w1 w.heap.size rb) (hg : wr.grownBy w1 (some rb)) : NL w rb F ov ns nb w1 := by
  have h1 := h.hrF
  refine ⟨h.bel.grown hg h.bel.size (fun k e => by injection e with e; have := h.hrb; omega), hr, h.row.keep fun b hb => hg.block b (h.row.lt b hb) fun e => ?_, h.fs, h.ok, h.hrb, h.hrF, Nat.le_trans h.hF hg.size⟩
  injection e with e
  have := h.fs.2 b hb
  omega
theorem NL.below (h : NL w rb F ov ns nb wr) (hb : Below wr.heap.size wr w1) : NL w rb F ov ns nb w1 :=
  ⟨below_next h.bel hb, h.rd.grown (grownBy_below (r := none) hb) (by simp) (fun _ e => by cases e), h.row.below hb, h.fs, h.ok, h.hrb, h.hrF, Nat.le_trans h.hF hb.size⟩
theorem NI.below (h : NI w rb F ov ns nb G ver pv ss pb wr) (hb : Below wr.heap.size wr w1) : NI w rb F ov ns nb G ver pv ss pb w1 :=
  ⟨h.nl.below hb, (hb.block G (Array.getElem?_eq_some_iff.1 h.kn).1).trans h.kn, h.str.below hb, h.pf, h.ap, h.gn, h.hG, h.len, h.sz⟩
theorem NI.next (h : NI w rb F ov ns nb G ver pv ss pb wr) (hr : RdIs w1 w.heap.size rb) (hg : wr.grownBy w1 (some rb)) : NI w rb F ov ns nb G ver pv ss pb w1 := by
  have h1 := h.nl.hrF
  have h2 := h.hG
  refine ⟨h.nl.next hr hg, (hg.block G (Array.getElem?_eq_some_iff.1 h.kn).1 fun e => ?_).trans h.kn, h.str.keep fun b hb => hg.block b (h.str.lt b hb) fun e => ?_, h.pf, h.ap, h.gn, h.hG, h.len, h.sz⟩
  · injection e with e; omega
  · injection e with e; have := h.pf.2 b hb; omega
/-- News begins. -/
theorem NL.start (h : NL w rb F ov ns nb wr) (ver : Int) : NI w rb F ov ns nb wr.heap.size ver (.slice none 0 0) [] [] (wr.alloc (.cells #[.int .i64 ver, .slice none 0 0] 53)) :=
  ⟨h.below (alloc_b _ _), heap_alloc_new wr _, ORow.nil _ _, Fsh.nil _, fun b hb => by (cases hb), fun hm => by have := h.row.lt _ hm; omega, h.hF, by simp, fun s hs => by (cases hs)⟩
/-- One pointer more. -/
theorem NI.push (h : NI w rb F ov ns nb G ver pv ss pb wr) {v' : Value} {s : ByteArray} {pb' : List Nat} {N : Nat} (ho : OStr w1 v' (ss ++ [s]) pb') (hf : Fsh F pb') (hm : ∀ b ∈ pb', b ∈ pb ∨ v'.ownBlock = some b) (hg : wr.grownBy w1 pv.ownBlock) (hw : v'.ownBlock = pv.ownBlock ∨ v'.ownBlock = some N) (hN : wr.heap.size ≤ N) (hl : ss.length < 3) (hs : s.size ≤ 40020) :
    w1.heap[G]? = some (.cells #[.int .i64 ver, pv] 53 (0, 0)) ∧ NI w rb F ov ns nb G ver v' (ss ++ [s]) pb' (w1.setCell ⟨G, 1, none⟩ v') := by
  have h1 := h.nl.hrF
  have h2 := h.hG
  have hpv : ∀ k, pv.ownBlock = some k → k ∈ pb := fun k hk => h.str.head hk
  have kG : w1.heap[G]? = some (.cells #[.int .i64 ver, pv] 53 (0, 0)) := (hg.block G (Array.getElem?_eq_some_iff.1 h.kn).1 fun e => ty_notg (ostr_ty h.str) h.kn (by decide) (hpv G e.symm)).trans h.kn
  have hGp : G ∉ pb' := ty_notg (ostr_ty ho) kG (by decide)
  have hmm : ∀ b ∈ pb', b ∈ pb ∨ wr.heap.size ≤ b := fun b hb => by
    rcases hm b hb with h3 | h3
    · exact .inl h3
    · rcases hw with h4 | h4
      · rw [h3] at h4; exact .inl (hpv b h4.symm)
      · rw [h3] at h4; injection h4 with h4; exact .inr (by omega)
  have hz := hg.size
  have n1 : NL w rb F ov ns nb w1 := by
    refine ⟨h.nl.bel.grown hg h.nl.bel.size (fun k e => by have := h.pf.2 k (hpv k e); have := h.nl.hrb; omega), h.nl.rd.grown hg (fun e => by have := h.pf.2 rb (hpv rb e.symm); omega) (fun k e => by have := h.pf.2 k (hpv k e); have := h.nl.hrb; omega), h.nl.row.keep fun b hb => hg.block b (h.nl.row.lt b hb) fun e => h.ap b (hpv b e.symm) hb, h.nl.fs, h.nl.ok, h.nl.hrb, h.nl.hrF, Nat.le_trans h.nl.hF hz⟩
  refine ⟨kG, ⟨⟨n1.bel.setCell (p := ⟨G, 1, none⟩) (by have := h.nl.hrb; show w.heap.size ≤ G; omega) v', ?_, n1.row.other h.gn 1 v', n1.fs, n1.ok, n1.hrb, n1.hrF, by simpa [World.setCell] using n1.hF⟩, heap_setCell_same _ _ 1 _ _ v' kG, ho.other hGp 1 v', hf, fun b hb hmb => ?_, h.gn, h.hG, by simp; omega, fun x hx => ?_⟩⟩
  · exact n1.rd.grown (w' := w1.setCell ⟨G, 1, none⟩ v') (r := some G) ⟨rfl, rfl, rfl, by simp [World.setCell], fun k _ hne => Below.heap_setCell _ _ _ _ (fun e => hne (by rw [e]))⟩ (fun e => by injection e with e; omega) (fun k e => by injection e with e; have := h.nl.hrb; omega)
  · rcases hmm b hb with h3 | h3
    · exact h.ap b h3 hmb
    · have := h.nl.row.lt b hmb; omega
  · rcases List.mem_append.1 hx with hx | hx
    · exact h.sz x hx
    · simp at hx; rw [hx]; exact hs
/-- News is done. -/
theorem NI.done (h : NI w rb F ov ns nb G ver pv ss pb wr) {v' : Value} {nb' : List Nat} {o : Obj} (ho : ORow nwsE w1 v' (ns ++ [⟨ver, ss⟩]) nb') (hf : Fsh F nb') (hg : (wr.alloc o).grownBy w1 ov.ownBlock) (hv : ver = (ns.length : Int) + 1) : NL w rb F v' (ns ++ [⟨ver, ss⟩]) nb' w1 := by
  have h1 := h.nl.hrF
  have hov : ∀ k, ov.ownBlock = some k → F ≤ k := fun k hk => h.nl.fs.2 k (h.nl.row.head hk)
  have n0 := h.nl.below (alloc_b wr o)
  have hz := hg.size
  refine ⟨n0.bel.grown hg n0.bel.size (fun k e => by have := hov k e; have := h.nl.hrb; omega), n0.rd.grown hg (fun e => by have := hov rb e.symm; omega) (fun k e => by have := hov k e; have := h.nl.hrb; omega), ho, hf, fun j n hj => ?_, h.nl.hrb, h.nl.hrF, by have := n0.hF; omega⟩
  by_cases hjl : j < ns.length
  · rw [List.getElem?_append_left hjl] at hj
    exact h.nl.ok j n hj
  · have hj' := (List.getElem?_eq_some_iff.1 hj).1
    rw [List.length_append, List.length_singleton] at hj'
    have : j = ns.length := by omega
    subst this
    simp at hj
    subst hj
    exact ⟨hv, h.len, h.sz⟩
end
end Go.Proofs.YtlfonikfjibloaaGreatDoor

namespace Go.Proofs.YtlfonikfjibloaaGreatDoor
open Go.RowKit

/-- What NewsList draws. -/
def NewsP (w : World) (e : Ending) (w' : World) : Prop := ∃ (ptr : ByteArray) (room : Nat) (nv : Value) (ns : List Nws) (rb F : Nat) (nb : List Nat), e = .returned (.tuple #[.string ptr, .int .i64 room, nv]) ∧ ptr.size ≤ 40020 ∧ (ptoks ptr.data.toList).isSome = true ∧ 1 ≤ room ∧ room ≤ 4 ∧ ns.length ≤ 8 ∧ NL w rb F nv ns nb w'
set_option maxRecDepth 100000 in
set_option maxHeartbeats 4000000 in
theorem newsList_walk (xa : Option Addr) (xb xo xc : Nat) (l : List UInt8) (w : World) (h : BS w xa xb xo l) (hl : l.length ≤ 1048576) (hc : l.length ≤ xc) :
    Calls Tryz.prog 21 #[.slice xa l.length xc] w (NewsP w) := by
  have HC := hide (open_walk xa xb xo xc l w h hl hc)
  clear h
  go_enter Tryz.func21, Tryz.ntmps21
  go_wp2_with fail
  refine (unhide HC).mono ?_
  rintro e w1 ⟨rfl, r1, b1, z1⟩
  have HD := hide (doc_walk w.heap.size w.heap.size w1 r1)
  have HB1 := hide b1
  have HZ1 := hide z1
  clear r1 b1 z1 HC
  go_wp2_with fail
  refine (unhide HD).mono ?_
  rintro e w2 ⟨v, hd, rfl, r2, g2⟩
  have HB2 : Hid (Below w.heap.size w w2) := (unhide HB1).grown g2 (unhide HB1).size (fun k e => by injection e with e; omega)
  have HDP : Hid (∀ wx, RdIs wx w.heap.size w.heap.size → Calls Tryz.prog 57 #[.pointer (some ⟨w.heap.size, 0, none⟩), .string (strOf (ct v))] wx (DP w.heap.size w.heap.size 40020 wx)) := fun wx hr => drawP_walk w.heap.size w.heap.size v wx hr hd
  have HX2 := hide (unhide HDP w2 r2)
  clear HD r2 g2 hd HB1
  generalize strOf (ct v) = sv at *
  go_wp2_with fail
  refine (unhide HX2).mono ?_
  rintro e w3 ⟨t, ht, rfl, r3, g3⟩
  have HB3 : Hid (Below w.heap.size w w3) := (unhide HB2).grown g3 (unhide HB2).size (fun k e => by injection e with e; omega)
  have HR3 := hide r3
  have hts : (strOf t).size ≤ 40020 := by rw [strOf_size]; exact ht
  generalize strOf t = s at *
  have HP := hide (isPtrS_walk s w3 (by omega))
  clear HX2 r3 g3 HB2
  go_wp2_with fail
  refine (unhide HP).mono ?_
  rintro e w4 ⟨rfl, b4⟩
  have HB4 := hide (below_next (unhide HB3) b4)
  have HR4 := hide ((unhide HR3).grown (grownBy_below (r := none) b4) (by simp) (fun _ e => by cases e))
  obtain ⟨z, hz⟩ : ∃ z, (ptoks s.data.toList).isSome = z := ⟨_, rfl⟩
  rw [hz]
  have HZ := hide hz
  clear HP b4 hz HB3 HR3
  cases z
  · go_wp2_with fail
    have HPT : Hid ((ptoks (⟨#[]⟩ : ByteArray).data.toList).isSome = true) := by show (_ = true); rfl
    have hps : (⟨#[]⟩ : ByteArray).size ≤ 40020 := by decide
    clear HZ hts
    generalize (⟨#[]⟩ : ByteArray) = p at *
    have HX5 := hide (next_walk w.heap.size w.heap.size w4 (unhide HR4))
    refine (unhide HX5).mono ?_
    rintro e w5 ⟨x, hx, rfl, r5, g5⟩
    have hrm : 1 + (x : Int) % 4 = ((1 + x % 4 : Nat) : Int) := by omega
    have hr1 : 1 ≤ 1 + x % 4 := by omega
    have hr4 : 1 + x % 4 ≤ 4 := by omega
    generalize 1 + x % 4 = room at *
    have HB5 : Hid (Below w.heap.size w w5) := (unhide HB4).grown g5 (unhide HB4).size (fun k e => by injection e with e; omega)
    have hs5 := (unhide HB5).size
    have hrl5 := r5.lt
    have hown := World.ownsRow_lit (base := 0) (e := 53) (size := 2) w5 #[] 0 (Nat.zero_le _) (by unfold maxLen; omega) rfl
    have hN0 : NL w w.heap.size w5.heap.size (.slice (some ⟨w5.heap.size, 0, none⟩) 0 0) [] [w5.heap.size] (w5.alloc (.cells #[] 53)) :=
      ⟨below_next (unhide HB5) (alloc_b _ _) |>.mono (Nat.le_refl _), r5.grown (World.grownBy_alloc w5 _ none) (by simp) (fun k e => by cases e), ⟨[], rfl, fun j p y hp => by simp at hp, hown, rfl⟩, ⟨by simp, fun b hb => by simp at hb; omega⟩, fun j n hj => by simp at hj, Nat.le_refl _, hrl5, by simp⟩
    have HN0 := hide hN0
    have HX6 := hide (next_walk w.heap.size w.heap.size _ hN0.rd)
    clear HX5 r5 g5 hown hN0 HB4 HR4 HB5
    go_wp2_with fail
    refine (unhide HX6).mono ?_
    rintro e w6 ⟨y, hy, rfl, r6, g6⟩
    have HN6 := hide ((unhide HN0).next r6 g6)
    have hnn : 1 + (y : Int) % 8 = ((1 + y % 8 : Nat) : Int) := by omega
    have hn8 : 1 + y % 8 ≤ 8 := by omega
    generalize 1 + y % 8 = nn at *
    generalize w5.heap.size = F at *
    clear HX6 r6 g6 HN0
    go_wp2_with fail
    go_loopw [9, 11] (fun v i wr => ∃ (k : Nat) (ns : List Nws) (nb : List Nat) (va : Option Addr) (vc : Nat), v = .slice va ns.length vc ∧ i = .int .i64 k ∧ k ≤ nn ∧ ns.length = k ∧ NL w w.heap.size F (.slice va ns.length vc) ns nb wr) (fun _ i _ => nn - (intOf i).toNat)
    case atStart => exact ⟨0, [], _, _, _, rfl, rfl, Nat.zero_le _, rfl, unhide HN6⟩
    case round =>
      obtain ⟨k, ns, nb, va, vc, rfl, rfl, hk, hnl, hN⟩ := hrel
      have HN := hide hN
      clear hN HN6
      by_cases hlt : k < nn
      · have hltI : (k : Int) < (nn : Int) := by omega
        have HNI := hide ((unhide HN).start ((k : Int) + 1))
        have hwb : ((k : Int) + 1) = ((k + 1 : Nat) : Int) := by omega
        have HX7 := hide (next_walk w.heap.size w.heap.size _ (unhide HNI).nl.rd)
        have HNL := hide hnl
        clear HN hwb hnl
        go_wp2_with fail
        refine (unhide HX7).mono ?_
        rintro e w7 ⟨x7, hx7, rfl, r7, g7⟩
        have HN7 := hide ((unhide HNI).next r7 g7)
        have hmm : (x7 : Int) % 4 = ((x7 % 4 : Nat) : Int) := by omega
        have hm3 : x7 % 4 ≤ 3 := by omega
        generalize x7 % 4 = m at *
        generalize wr.heap.size = G at *
        clear HX7 r7 g7 HNI
        go_wp2_with fail
        simp only [hmm]
        clear hmm
        go_loopw [14] (fun i wi => ∃ (j : Nat) (ss : List ByteArray) (pb : List Nat) (pa : Option Addr) (pc : Nat), i = .int .i64 j ∧ j ≤ m ∧ ss.length = j ∧ NI w w.heap.size F (.slice va ns.length vc) ns nb G ((k : Int) + 1) (.slice pa ss.length pc) ss pb wi) (fun i _ => m - (intOf i).toNat)
        case atStart => exact ⟨0, [], _, _, _, rfl, Nat.zero_le _, rfl, unhide HN7⟩
        case round =>
          obtain ⟨j, ss, pb, pa, pc, rfl, hj, hsl, hI⟩ := hrel
          have HI := hide hI
          have HSL := hide hsl
          clear hI HN7 hsl
          by_cases hjm : j < m
          · have hjI : (j : Int) < (m : Int) := by omega
            have hdr : Below wr.heap.size wr wr.drew := (Below.refl _ _).drew
            have hId := (unhide HI).below hdr
            have k1 : wr.cell? ⟨G, 1, none⟩ = some (.slice pa ss.length pc) := Lib.cell_of_heap (unhide HI).kn 1
            have HD9 := hide (unhide HDP wr.drew hId.nl.rd)
            have HID := hide hId
            clear hdr hId HI
            go_wp2_with fail
            go_region_law (first
              | (refine step_append_elemW (e := strE) str_ty (by decide) Tryz.underlying51 infoStrE rfl (by decide) (by decide) rfl (.tmp 51) (.tmp 55) rfl (B := F) rfl (unhide O9) (unhide F9) (unhide E9) (Fsh.nil _) (fun b hb => by cases hb) rfl (by exact lit_cells w8 [_] _) (by exact unhide ONE) (by simp; omega) (by have := unhide HSL; omega) ?_
                 intro v9 w9 pb9 o9 f9 m9 hg9 hw9
                 obtain ⟨qa, qc, rfl, hq1, hq2⟩ := o9.form
                 obtain ⟨kG, hI9⟩ := (unhide HI8).push o9 f9 (fun b hb => by
                   rcases m9 b hb with h1 | h1 | h1
                   · exact .inl h1
                   · cases h1
                   · exact .inr h1) hg9 hw9 (by simp) (by have := unhide HSL; omega) hts
                 have k9 : w9.cell? ⟨G, 1, none⟩ = some (.slice pa ss.length pc) := Lib.cell_of_heap kG 1
                 have f9' := Lib.frozen_of_heap kG)
              | (go_simp; refine (unhide HD9).mono ?_
                 rintro e w8 ⟨t, ht, rfl, r8, g8⟩
                 have hts : (strOf t).size ≤ 40020 := (by rw [strOf_size]; exact ht)
                 generalize strOf t = sp at *
                 have hI8 := (unhide HID).next r8 g8
                 have k8 : w8.cell? ⟨G, 1, none⟩ = some (.slice pa ss.length pc) := Lib.cell_of_heap hI8.kn 1
                 have hab := alloc_b w8 (.cells #[.string sp] 9)
                 have hI8' := hI8.below hab
                 have k8' : (w8.alloc (.cells #[.string sp] 9)).cell? ⟨G, 1, none⟩ = some (.slice pa ss.length pc) := Lib.cell_of_heap hI8'.kn 1
                 have HI8 := hide hI8'
                 have O9 := hide hI8'.str
                 have F9 := hide hI8'.pf
                 have E9 : Hid (strE.E (w8.alloc (.cells #[.string sp] 9)) [.string sp] sp []) := ⟨rfl, rfl⟩
                 have ONE : Hid (∀ u ∈ [Value.string sp], u.oneCell' = true) := (fun u hu => by simp at hu; subst hu; rfl)
                 have hF8 := hI8.nl.hF))
            all_goals (
              have hlen : (ss ++ [sp]).length = ss.length + 1 := by simp
              rw [hlen] at hI9
              have HI9 := hide hI9
              clear hI9 o9 f9 m9 hg9 hw9 hq1 hq2 kG k9 f9' HI8 O9 F9 E9 ONE k8 k8' hI8 hI8' hab r8 g8 HD9 HID k1
              go_wp2
              go_roundw)
            all_goals first
              | (simp [intOf]; omega; done)
              | exact ⟨j + 1, ss ++ [sp], pb9, qa, qc, by go_num, by omega, by have := unhide HSL; omega, by rw [hlen]; exact unhide HI9⟩
          · have hjI : ¬ (j : Int) < (m : Int) := by omega
            have k0 : wr.cell? ⟨G, 0, none⟩ = some (.int .i64 ((k : Int) + 1)) := Lib.cell_of_heap (unhide HI).kn 0
            have k1 : wr.cell? ⟨G, 1, none⟩ = some (.slice pa ss.length pc) := Lib.cell_of_heap (unhide HI).kn 1
            have hln : ns.length ≤ 8 := by have := unhide HNL; omega
            have hab := alloc_b wr (.cells #[.int .i64 ((k : Int) + 1), .slice pa ss.length pc] 53)
            have hI := (unhide HI).below hab
            have O8 := hide hI.nl.row
            have F8 := hide hI.nl.fs
            have E8 : Hid (nwsE.E (wr.alloc (.cells #[.int .i64 ((k : Int) + 1), .slice pa ss.length pc] 53)) [.int .i64 ((k : Int) + 1), .slice pa ss.length pc] ⟨(k : Int) + 1, ss⟩ pb) := ⟨_, rfl, hI.str⟩
            have P8 := hide hI.pf
            have A8 := hide hI.ap
            have ONE : Hid (∀ u ∈ [Value.int .i64 ((k : Int) + 1), .slice pa ss.length pc], u.oneCell' = true) := fun u hu => by simp at hu; rcases hu with rfl | rfl <;> rfl
            have hF8 := (unhide HI).nl.hF
            clear hab hI HDP
            go_wp2_with (at_builtin; refine wpList_append_elem (e := nwsE) nws_ty (by decide) Tryz.underlying42 infoNws rfl (by decide) (by decide) rfl (.tmp 58) (.tmp 60) rfl (B := F) rfl (unhide O8) (unhide F8) (unhide E8) (unhide P8) (unhide A8) rfl (by exact lit_cells wr [_, _] _) (by exact unhide ONE) (by simp; omega) (by omega) ?_)
            intro v9 w9 nb9 o9 f9 m9 hg9
            obtain ⟨qa, qc, rfl, hq1, hq2⟩ := o9.form
            have hN9 := (unhide HI).done o9 f9 hg9 (by rw [unhide HNL])
            have hlen : (ns ++ [(⟨(k : Int) + 1, ss⟩ : Nws)]).length = ns.length + 1 := by simp
            rw [hlen] at hN9
            have HN9 := hide hN9
            clear hN9 o9 f9 m9 hg9 hq1 hq2 O8 F8 E8 P8 A8 ONE HI k0 k1
            go_wp2
            go_roundw
            case rel => exact ⟨k + 1, ns ++ [⟨(k : Int) + 1, ss⟩], nb9, qa, qc, by rw [hlen], by go_num, by omega, by have := unhide HNL; omega, by rw [hlen]; exact unhide HN9⟩
            case measure => simp [intOf]; omega
      · have hltI : ¬ (k : Int) < (nn : Int) := by omega
        have HNL := hide hnl
        clear hnl HDP
        go_wp2
        go_returns
        exact ⟨p, room, _, ns, _, F, nb, rfl, hps, unhide HPT, hr1, hr4, by have := unhide HNL; omega, unhide HN⟩
  · go_wp2_with fail
    have HPT := HZ
    have hps := hts
    clear HZ hts
    generalize s = p at *
    have HX5 := hide (next_walk w.heap.size w.heap.size w4 (unhide HR4))
    refine (unhide HX5).mono ?_
    rintro e w5 ⟨x, hx, rfl, r5, g5⟩
    have hrm : 1 + (x : Int) % 4 = ((1 + x % 4 : Nat) : Int) := by omega
    have hr1 : 1 ≤ 1 + x % 4 := by omega
    have hr4 : 1 + x % 4 ≤ 4 := by omega
    generalize 1 + x % 4 = room at *
    have HB5 : Hid (Below w.heap.size w w5) := (unhide HB4).grown g5 (unhide HB4).size (fun k e => by injection e with e; omega)
    have hs5 := (unhide HB5).size
    have hrl5 := r5.lt
    have hown := World.ownsRow_lit (base := 0) (e := 53) (size := 2) w5 #[] 0 (Nat.zero_le _) (by unfold maxLen; omega) rfl
    have hN0 : NL w w.heap.size w5.heap.size (.slice (some ⟨w5.heap.size, 0, none⟩) 0 0) [] [w5.heap.size] (w5.alloc (.cells #[] 53)) :=
      ⟨below_next (unhide HB5) (alloc_b _ _) |>.mono (Nat.le_refl _), r5.grown (World.grownBy_alloc w5 _ none) (by simp) (fun k e => by cases e), ⟨[], rfl, fun j p y hp => by simp at hp, hown, rfl⟩, ⟨by simp, fun b hb => by simp at hb; omega⟩, fun j n hj => by simp at hj, Nat.le_refl _, hrl5, by simp⟩
    have HN0 := hide hN0
    have HX6 := hide (next_walk w.heap.size w.heap.size _ hN0.rd)
    clear HX5 r5 g5 hown hN0 HB4 HR4 HB5
    go_wp2_with fail
    refine (unhide HX6).mono ?_
    rintro e w6 ⟨y, hy, rfl, r6, g6⟩
    have HN6 := hide ((unhide HN0).next r6 g6)
    have hnn : 1 + (y : Int) % 8 = ((1 + y % 8 : Nat) : Int) := by omega
    have hn8 : 1 + y % 8 ≤ 8 := by omega
    generalize 1 + y % 8 = nn at *
    generalize w5.heap.size = F at *
    clear HX6 r6 g6 HN0
    go_wp2_with fail
    go_loopw [9, 11] (fun v i wr => ∃ (k : Nat) (ns : List Nws) (nb : List Nat) (va : Option Addr) (vc : Nat), v = .slice va ns.length vc ∧ i = .int .i64 k ∧ k ≤ nn ∧ ns.length = k ∧ NL w w.heap.size F (.slice va ns.length vc) ns nb wr) (fun _ i _ => nn - (intOf i).toNat)
    case atStart => exact ⟨0, [], _, _, _, rfl, rfl, Nat.zero_le _, rfl, unhide HN6⟩
    case round =>
      obtain ⟨k, ns, nb, va, vc, rfl, rfl, hk, hnl, hN⟩ := hrel
      have HN := hide hN
      clear hN HN6
      by_cases hlt : k < nn
      · have hltI : (k : Int) < (nn : Int) := by omega
        have HNI := hide ((unhide HN).start ((k : Int) + 1))
        have hwb : ((k : Int) + 1) = ((k + 1 : Nat) : Int) := by omega
        have HX7 := hide (next_walk w.heap.size w.heap.size _ (unhide HNI).nl.rd)
        have HNL := hide hnl
        clear HN hwb hnl
        go_wp2_with fail
        refine (unhide HX7).mono ?_
        rintro e w7 ⟨x7, hx7, rfl, r7, g7⟩
        have HN7 := hide ((unhide HNI).next r7 g7)
        have hmm : (x7 : Int) % 4 = ((x7 % 4 : Nat) : Int) := by omega
        have hm3 : x7 % 4 ≤ 3 := by omega
        generalize x7 % 4 = m at *
        generalize wr.heap.size = G at *
        clear HX7 r7 g7 HNI
        go_wp2_with fail
        simp only [hmm]
        clear hmm
        go_loopw [14] (fun i wi => ∃ (j : Nat) (ss : List ByteArray) (pb : List Nat) (pa : Option Addr) (pc : Nat), i = .int .i64 j ∧ j ≤ m ∧ ss.length = j ∧ NI w w.heap.size F (.slice va ns.length vc) ns nb G ((k : Int) + 1) (.slice pa ss.length pc) ss pb wi) (fun i _ => m - (intOf i).toNat)
        case atStart => exact ⟨0, [], _, _, _, rfl, Nat.zero_le _, rfl, unhide HN7⟩
        case round =>
          obtain ⟨j, ss, pb, pa, pc, rfl, hj, hsl, hI⟩ := hrel
          have HI := hide hI
          have HSL := hide hsl
          clear hI HN7 hsl
          by_cases hjm : j < m
          · have hjI : (j : Int) < (m : Int) := by omega
            have hdr : Below wr.heap.size wr wr.drew := (Below.refl _ _).drew
            have hId := (unhide HI).below hdr
            have k1 : wr.cell? ⟨G, 1, none⟩ = some (.slice pa ss.length pc) := Lib.cell_of_heap (unhide HI).kn 1
            have HD9 := hide (unhide HDP wr.drew hId.nl.rd)
            have HID := hide hId
            clear hdr hId HI
            go_wp2_with fail
            go_region_law (first
              | (refine step_append_elemW (e := strE) str_ty (by decide) Tryz.underlying51 infoStrE rfl (by decide) (by decide) rfl (.tmp 51) (.tmp 55) rfl (B := F) rfl (unhide O9) (unhide F9) (unhide E9) (Fsh.nil _) (fun b hb => by cases hb) rfl (by exact lit_cells w8 [_] _) (by exact unhide ONE) (by simp; omega) (by have := unhide HSL; omega) ?_
                 intro v9 w9 pb9 o9 f9 m9 hg9 hw9
                 obtain ⟨qa, qc, rfl, hq1, hq2⟩ := o9.form
                 obtain ⟨kG, hI9⟩ := (unhide HI8).push o9 f9 (fun b hb => by
                   rcases m9 b hb with h1 | h1 | h1
                   · exact .inl h1
                   · cases h1
                   · exact .inr h1) hg9 hw9 (by simp) (by have := unhide HSL; omega) hts
                 have k9 : w9.cell? ⟨G, 1, none⟩ = some (.slice pa ss.length pc) := Lib.cell_of_heap kG 1
                 have f9' := Lib.frozen_of_heap kG)
              | (go_simp; refine (unhide HD9).mono ?_
                 rintro e w8 ⟨t, ht, rfl, r8, g8⟩
                 have hts : (strOf t).size ≤ 40020 := (by rw [strOf_size]; exact ht)
                 generalize strOf t = sp at *
                 have hI8 := (unhide HID).next r8 g8
                 have k8 : w8.cell? ⟨G, 1, none⟩ = some (.slice pa ss.length pc) := Lib.cell_of_heap hI8.kn 1
                 have hab := alloc_b w8 (.cells #[.string sp] 9)
                 have hI8' := hI8.below hab
                 have k8' : (w8.alloc (.cells #[.string sp] 9)).cell? ⟨G, 1, none⟩ = some (.slice pa ss.length pc) := Lib.cell_of_heap hI8'.kn 1
                 have HI8 := hide hI8'
                 have O9 := hide hI8'.str
                 have F9 := hide hI8'.pf
                 have E9 : Hid (strE.E (w8.alloc (.cells #[.string sp] 9)) [.string sp] sp []) := ⟨rfl, rfl⟩
                 have ONE : Hid (∀ u ∈ [Value.string sp], u.oneCell' = true) := (fun u hu => by simp at hu; subst hu; rfl)
                 have hF8 := hI8.nl.hF))
            all_goals (
              have hlen : (ss ++ [sp]).length = ss.length + 1 := by simp
              rw [hlen] at hI9
              have HI9 := hide hI9
              clear hI9 o9 f9 m9 hg9 hw9 hq1 hq2 kG k9 f9' HI8 O9 F9 E9 ONE k8 k8' hI8 hI8' hab r8 g8 HD9 HID k1
              go_wp2
              go_roundw)
            all_goals first
              | (simp [intOf]; omega; done)
              | exact ⟨j + 1, ss ++ [sp], pb9, qa, qc, by go_num, by omega, by have := unhide HSL; omega, by rw [hlen]; exact unhide HI9⟩
          · have hjI : ¬ (j : Int) < (m : Int) := by omega
            have k0 : wr.cell? ⟨G, 0, none⟩ = some (.int .i64 ((k : Int) + 1)) := Lib.cell_of_heap (unhide HI).kn 0
            have k1 : wr.cell? ⟨G, 1, none⟩ = some (.slice pa ss.length pc) := Lib.cell_of_heap (unhide HI).kn 1
            have hln : ns.length ≤ 8 := by have := unhide HNL; omega
            have hab := alloc_b wr (.cells #[.int .i64 ((k : Int) + 1), .slice pa ss.length pc] 53)
            have hI := (unhide HI).below hab
            have O8 := hide hI.nl.row
            have F8 := hide hI.nl.fs
            have E8 : Hid (nwsE.E (wr.alloc (.cells #[.int .i64 ((k : Int) + 1), .slice pa ss.length pc] 53)) [.int .i64 ((k : Int) + 1), .slice pa ss.length pc] ⟨(k : Int) + 1, ss⟩ pb) := ⟨_, rfl, hI.str⟩
            have P8 := hide hI.pf
            have A8 := hide hI.ap
            have ONE : Hid (∀ u ∈ [Value.int .i64 ((k : Int) + 1), .slice pa ss.length pc], u.oneCell' = true) := fun u hu => by simp at hu; rcases hu with rfl | rfl <;> rfl
            have hF8 := (unhide HI).nl.hF
            clear hab hI HDP
            go_wp2_with (at_builtin; refine wpList_append_elem (e := nwsE) nws_ty (by decide) Tryz.underlying42 infoNws rfl (by decide) (by decide) rfl (.tmp 58) (.tmp 60) rfl (B := F) rfl (unhide O8) (unhide F8) (unhide E8) (unhide P8) (unhide A8) rfl (by exact lit_cells wr [_, _] _) (by exact unhide ONE) (by simp; omega) (by omega) ?_)
            intro v9 w9 nb9 o9 f9 m9 hg9
            obtain ⟨qa, qc, rfl, hq1, hq2⟩ := o9.form
            have hN9 := (unhide HI).done o9 f9 hg9 (by rw [unhide HNL])
            have hlen : (ns ++ [(⟨(k : Int) + 1, ss⟩ : Nws)]).length = ns.length + 1 := by simp
            rw [hlen] at hN9
            have HN9 := hide hN9
            clear hN9 o9 f9 m9 hg9 hq1 hq2 O8 F8 E8 P8 A8 ONE HI k0 k1
            go_wp2
            go_roundw
            case rel => exact ⟨k + 1, ns ++ [⟨(k : Int) + 1, ss⟩], nb9, qa, qc, by rw [hlen], by go_num, by omega, by have := unhide HNL; omega, by rw [hlen]; exact unhide HN9⟩
            case measure => simp [intOf]; omega
      · have hltI : ¬ (k : Int) < (nn : Int) := by omega
        have HNL := hide hnl
        clear hnl HDP
        go_wp2
        go_returns
        exact ⟨p, room, _, ns, _, F, nb, rfl, hps, unhide HPT, hr1, hr4, by have := unhide HNL; omega, unhide HN⟩
end Go.Proofs.YtlfonikfjibloaaGreatDoor

namespace Go.Proofs.YtlfonikfjibloaaGreatDoor
open Go.RowKit

/-- The law at work: the news, and the hub in its block. -/
structure TS (w : World) (nv : Value) (ns : List Nws) (nb : List Nat) (H : Nat) (p q : Value) (h : Hb) (wr : World) : Prop where
  bel : Below w.heap.size w wr
  row : ORow nwsE wr nv ns nb
  kh : wr.heap[H]? = some (.cells #[p, q] 47 (0, 0))
  oh : ∃ bl, OHub wr (.agg #[p, q]) h bl ∧ bl.Nodup
  hH : w.heap.size ≤ H
section
variable {w : World} {nv : Value} {ns : List Nws} {nb : List Nat} {H : Nat} {p q p' q' : Value} {h h' : Hb} {wr w1 : World} {bl' : List Nat}
theorem TS.below (t : TS w nv ns nb H p q h wr) (hb : Below wr.heap.size wr w1) : TS w nv ns nb H p q h w1 := by
  obtain ⟨bl, o, n⟩ := t.oh
  exact ⟨below_next t.bel hb, t.row.below hb, (hb.block H (Array.getElem?_eq_some_iff.1 t.kh).1).trans t.kh, ⟨bl, o.below hb, n⟩, t.hH⟩
theorem hub_putN {w : World} {H : Nat} {p q : Value} {h : Hb} {bl : List Nat} {cs : Array Value} (kh : w.heap[H]? = some (.cells cs 47 (0, 0))) (o : OHub w (.agg #[p, q]) h bl) (vs : List Value) (k : Nat) : OHub (putN w H k vs) (.agg #[p, q]) h bl := by
  obtain ⟨x, y, b1, b2, e, o1, o2, rfl⟩ := o
  injection e with e
  have e' : [p, q] = [x, y] := congrArg Array.toList e
  injection e' with e0 e'; injection e' with e1 _
  subst e0; subst e1
  exact ⟨_, _, b1, b2, rfl, o1.putN (hub_not kh (wats_ty o1) (by decide)) vs k, o2.putN (hub_not kh (nwss_ty o2) (by decide)) vs k, rfl⟩
/-- The hub's block is written anew. -/
theorem TS.put (t : TS w nv ns nb H p q h wr) (hb : Below wr.heap.size wr w1) (o : OHub w1 (.agg #[p', q']) h' bl') (hn : bl'.Nodup) : w1.heap[H]? = some (.cells #[p, q] 47 (0, 0)) ∧ TS w nv ns nb H p' q' h' (putN w1 H 0 [p', q']) := by
  have t1 := t.below hb
  exact ⟨t1.kh, putN_below (g := H) t1.bel t1.hH [p', q'] 0, t1.row.putN (hub_not t1.kh (nwss_ty t1.row) (by decide)) [p', q'] 0, putN_full t1.kh [p', q'] rfl, ⟨bl', hub_putN t1.kh o [p', q'] 0, hn⟩, t.hH⟩
end
/-- Sizes. -/
def wE (E : List (Int × List ByteArray)) : Nat := (E.map fun e => 1 + szStr e.2).sum
theorem wE_app (A B : List (Int × List ByteArray)) : wE (A ++ B) = wE A + wE B := by unfold wE; rw [List.map_append, List.sum_append]
theorem szMsgs_app (a b : List Msg) : szMsgs (a ++ b) = szMsgs a + szMsgs b := by unfold szMsgs; simp; omega
theorem sz_msgs : ∀ E : List (Int × List ByteArray), szMsgs (E.map fun p => ⟨p.1, p.2, false⟩) = wE E
  | [] => rfl
  | e :: r => by
    have := sz_msgs r
    unfold szMsgs wE at *
    simp [szMsg] at *
    omega
theorem sz_over : ∀ E : List (Int × List ByteArray), szMsgs (E.map fun p => ⟨p.1, [], true⟩) ≤ wE E
  | [] => Nat.le_refl _
  | e :: r => by
    have := sz_over r
    unfold szMsgs wE at *
    simp [szMsg, szStr, tot] at *
    omega
theorem sz_qT (r : Nat) (E : List (Int × List ByteArray)) : szMsgs (qT r E) ≤ wE E := by
  unfold qT
  rw [szMsgs_app, sz_msgs]
  have h1 := sz_over ((E.drop r).take 1)
  have h2 := wE_app (E.take r) (E.drop r)
  rw [List.take_append_drop] at h2
  have h3 := wE_app ((E.drop r).take 1) ((E.drop r).drop 1)
  rw [List.take_append_drop] at h3
  omega
theorem wE_lT (ptr : ByteArray) : ∀ ns : List Nws, wE (lT ptr ns) ≤ szNwss ns
  | [] => by simp [lT, wE]
  | n :: r => by
    have h1 := wE_lT ptr r
    rw [lT_cons, wE_app]
    have h2 : wE (eT ptr n) ≤ 1 + szNws n := by
      unfold eT
      split
      · simp [wE]
      · have := szStr_filter (fun s => meet s.data.toList ptr.data.toList) n.ptrs
        simp only [wE, List.map_cons, List.map_nil, List.sum_cons, List.sum_nil, szNws]
        show 1 + szStr (nrT ptr n) + 0 ≤ _
        unfold nrT; omega
    unfold szNwss at *
    simp at *
    omega
theorem szNwss_app (a b : List Nws) : szNwss (a ++ b) = szNwss a + szNwss b := by unfold szNwss; simp; omega
theorem sz_hubT (ptr : ByteArray) (room r : Nat) (E : List (Int × List ByteArray)) (l : List Nws) : szHb (hubT ptr room r E l) ≤ 1 + ptr.size + wE E + szNwss l := by
  have := sz_qT r E
  unfold hubT szHb szWats
  simp [szWat, watT]
  omega
theorem sz_news {ns : List Nws} (hl : ns.length ≤ 8) (hk : ∀ (j : Nat) (n : Nws), ns[j]? = some n → n.ver = (j : Int) + 1 ∧ n.ptrs.length ≤ 3 ∧ ∀ s ∈ n.ptrs, s.size ≤ 40020) : szNwss ns ≤ 960512 := by
  have h1 : ∀ l : List ByteArray, (∀ s ∈ l, s.size ≤ 40020) → szStr l ≤ l.length * 40021 := by
    intro l
    induction l with
    | nil => intro _; simp [szStr, tot]
    | cons s r ih =>
      intro h
      have h1 := ih (fun x hx => h x (List.mem_cons_of_mem _ hx))
      have h2 := h s List.mem_cons_self
      unfold szStr tot at *
      simp only [List.map_cons, List.sum_cons, List.length_cons]
      omega
  have h2 : ∀ l : List Nws, (∀ n ∈ l, n.ptrs.length ≤ 3 ∧ ∀ s ∈ n.ptrs, s.size ≤ 40020) → szNwss l ≤ l.length * 120064 := by
    intro l
    induction l with
    | nil => intro _; simp [szNwss]
    | cons n r ih =>
      intro h
      have h3 := ih (fun x hx => h x (List.mem_cons_of_mem _ hx))
      have h4 := h n List.mem_cons_self
      have h5 := h1 n.ptrs h4.2
      have h6 : n.ptrs.length * 40021 ≤ 3 * 40021 := Nat.mul_le_mul_right _ h4.1
      unfold szNwss szNws at *
      simp only [List.map_cons, List.sum_cons, List.length_cons]
      omega
  have h3 := h2 ns (fun n hn => by
    obtain ⟨j, hj, rfl⟩ := List.mem_iff_getElem.1 hn
    exact (hk j ns[j] (List.getElem?_eq_getElem hj)).2)
  have h4 : ns.length * 120064 ≤ 8 * 120064 := Nat.mul_le_mul_right _ hl
  omega
theorem sub_hubT {ptr : ByteArray} {room : Nat} (hp : (ptoks ptr.data.toList).isSome = true) (h1 : 1 ≤ room) (h4 : room ≤ 4) : subC 3 ptr (room : Int) = 0 ∧ subH ⟨[], []⟩ 3 ptr (room : Int) 0 = hubT ptr room room [] [] := by
  have hc : subC 3 ptr (room : Int) = 0 := subC_0 (by omega) (by omega) hp (by omega) (by omega)
  refine ⟨hc, ?_⟩
  unfold subH
  rw [if_pos hc]
  have : (canH ⟨[], []⟩ 3).watches = [] := rfl
  rw [this]
  simp [hubT, watT, subW, cT_nil, qT_nil]
end Go.Proofs.YtlfonikfjibloaaGreatDoor

namespace Go.Proofs.YtlfonikfjibloaaGreatDoor
open Go.RowKit

set_option maxRecDepth 100000 in
theorem nearSpec_walk (ptr : ByteArray) (xa : Option Addr) (xb xo xc : Nat) (ss : List ByteArray) (w : World) (hp : ptr.size ≤ 1048576) (h : SS w xa xb xo ss) (hs : ∀ j, (ss.getD j ByteArray.empty).size ≤ 1048576) (hm : ss.length ≤ 1048577) :
    Calls Tryz.prog 25 #[.slice xa ss.length xc, .string ptr] w fun e w' => ∃ v, e = .returned v ∧ OT w' w.heap.size v (nearQ ptr ss) ∧ Below w.heap.size w w' := by
  have HN := hide (l5Near_walk ptr xa xb xo xc ss w hp h hs hm)
  clear h hs
  go_enter Tryz.func25, Tryz.ntmps25
  go_wp2_with fail
  refine (unhide HN).mono ?_
  rintro e w1 ⟨v, rfl, o1, b1⟩
  have HO := hide o1
  clear HN o1
  go_wp2
  go_ret
  exact ⟨_, rfl, unhide HO, b1⟩
set_option maxRecDepth 100000 in
theorem sameTexts_walk (xa ya : Option Addr) (xb xo xc yb yo yc : Nat) (ss : List ByteArray) (w : World) (hx : SS w xa xb xo ss) (hy : SS w ya yb yo ss) (hm : ss.length ≤ 1000000) :
    Calls Tryz.prog 27 #[.slice xa ss.length xc, .slice ya ss.length yc] w fun e w' => e = .returned (.bool true) ∧ Below w.heap.size w w' := by
  have HN := hide (same4_walk xa ya xb xo xc yb yo yc ss w hx hy (by omega))
  clear hx hy
  go_enter Tryz.func27, Tryz.ntmps27
  go_wp2_with fail
  refine (unhide HN).mono ?_
  rintro e w1 ⟨rfl, n, rfl⟩
  clear HN
  go_wp2
  go_ret
  exact ⟨rfl, draws_b w n⟩
theorem lT_drop_no {ptr : ByteArray} {ns : List Nws} {k : Nat} (hk : k < ns.length) (h : (nrT ptr ns[k]).length = 0) : lT ptr (ns.drop k) = lT ptr (ns.drop (k + 1)) := by
  rw [List.drop_eq_getElem_cons hk, lT_cons]
  unfold eT
  rw [if_pos h]; rfl
theorem lT_drop_yes {ptr : ByteArray} {ns : List Nws} {k : Nat} (hk : k < ns.length) (h : ¬ (nrT ptr ns[k]).length = 0) : lT ptr (ns.drop k) = (ns[k].ver, nrT ptr ns[k]) :: lT ptr (ns.drop (k + 1)) := by
  rw [List.drop_eq_getElem_cons hk, lT_cons]
  unfold eT
  rw [if_neg h]; rfl
theorem TS.cellv {w : World} {ns : List Nws} {nb : List Nat} {gn L nc H : Nat} {p q : Value} {h : Hb} {wr : World} (t : TS w (.slice (some ⟨gn, 0, none⟩) L nc) ns nb H p q h wr) {k : Nat} {n : Nws} (hx : ns[k]? = some n) : wr.cell? ⟨gn, k * 2, none⟩ = some (.int .i64 n.ver) := by
  obtain ⟨vs, ib, hE, hcn, _⟩ := t.row.at hx
  obtain ⟨nq, rfl, on⟩ := hE
  exact (hcn 0 _ rfl).1
theorem TS.hlt {w : World} {nv : Value} {ns : List Nws} {nb : List Nat} {H : Nat} {p q : Value} {h : Hb} {wr : World} (t : TS w nv ns nb H p q h wr) : H < wr.heap.size := (Array.getElem?_eq_some_iff.1 t.kh).1
theorem sz_last (ptr : ByteArray) (room : Nat) : szHb ⟨[watT ptr room true []], []⟩ = 1 + ptr.size := by
  simp [szHb, szWats, szNwss, szWat, watT, szMsgs]
end Go.Proofs.YtlfonikfjibloaaGreatDoor
