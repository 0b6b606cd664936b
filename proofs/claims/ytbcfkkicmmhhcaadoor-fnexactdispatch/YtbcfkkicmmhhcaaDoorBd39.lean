import Derived.Test.YtbcfkkicmmhhcaaDoorBd38
import Derived.Test.YtbcfkkicmmhhcaaDoorBd36
import Derived.Test.YtbcfkkicmmhhcaaDoorBd8
namespace Go.Proofs.YtbcfkkicmmhhcaaDoor
open Go.RowKit

/-- The texts of a list that meet another one. -/
def nearP (p : ByteArray) (ss : List ByteArray) : List (List UInt8) := (ss.filter fun s => leads p.data.toList s.data.toList).map (·.data.toList)
theorem nearP_step {p : ByteArray} {ss : List ByteArray} {k : Nat} (h : k < ss.length) : nearP p (ss.take (k + 1)) = nearP p (ss.take k) ++ (if leads p.data.toList (ss.getD k ByteArray.empty).data.toList then [(ss.getD k ByteArray.empty).data.toList] else []) := by
  rw [take_snoc h]
  generalize ss.getD k ByteArray.empty = s
  unfold nearP
  rw [List.filter_append, List.map_append]
  congr 1
  cases hl : leads p.data.toList s.data.toList <;> simp [hl]
theorem nearP_len (p : ByteArray) (ss : List ByteArray) : (nearP p ss).length ≤ ss.length := by
  unfold nearP; rw [List.length_map]; exact List.length_filter_le _ _

set_option maxHeartbeats 1000000 in
set_option maxRecDepth 100000 in
theorem near_walk (g : Nat) (ptr : ByteArray) (xa : Option Addr) (xb xo xc : Nat) (ss : List ByteArray) (w : World) (hML : ML w) (hp : ptr.size ≤ 1048576) (hg : w.cell? ⟨g, 1, none⟩ = some (.string ptr)) (h : SS w xa xb xo ss) (hm : ss.length ≤ 1048577) :
    Calls Tryd.prog 109 #[.pointer (some ⟨g, 0, none⟩), .slice xa ss.length xc] w fun e w' => ∃ v, e = .returned v ∧ OT w' w.heap.size v (if (ptoks ptr.data.toList).isSome then nearP ptr ss else []) ∧ Below w.heap.size w w' := by
  obtain ⟨i0, hi, hz0, hz1, hz2⟩ := info_parts infoString
  have hadr := h.ad
  have HC := hide h.cell
  have HT := hide (isPtr_walk ptr w hML hp)
  clear h hML
  have hgl := World.block_lt_of_cell? _ _ hg
  cases hz : (ptoks ptr.data.toList).isSome with
  | false =>
    rw [hz] at HT
    clear hadr hz
    go_enter Tryd.func109, Tryd.ntmps109
    go_wp2_with fail
    refine (unhide HT).mono ?_
    rintro e w1 ⟨rfl, b1⟩
    have B1 := hide b1
    clear b1 HT
    go_wp2
    go_ret
    exact ⟨_, rfl, World.ownsRow_nil _ _ _ _, unhide B1⟩
  | true =>
    rw [hz] at HT
    have HAD := hide hadr
    clear hadr hz
    go_enter Tryd.func109, Tryd.ntmps109
    go_wp2_with fail
    refine (unhide HT).mono ?_
    rintro e w1 ⟨rfl, b1⟩
    have B1 := hide b1
    clear b1 HT
    go_wp2
    go_loopw [5, 17] (fun v i wr => ∃ k : Nat, k ≤ ss.length ∧ i = .int .i64 k ∧ OT wr w.heap.size v (nearP ptr (ss.take k)) ∧ Below w.heap.size w wr) (fun _ i _ => ss.length - (intOf i).toNat)
    case atStart => exact ⟨0, Nat.zero_le _, rfl, World.ownsRow_nil _ _ _ _, unhide B1⟩
    case round =>
      obtain ⟨k, hk, rfl, hown, hb⟩ := hrel
      by_cases hlt : k < ss.length
      · have hc0 := unhide HC k hlt
        have hxb : xb < w.heap.size := World.block_lt_of_cell? _ _ hc0
        obtain rfl := unhide HAD (by omega)
        have hst := nearP_step (p := ptr) hlt
        have hol := nearP_len ptr (ss.take k)
        have hol2 : (ss.take k).length ≤ k := by rw [List.length_take]; omega
        generalize hs : ss.getD k ByteArray.empty = s at *
        have HST := hide hst
        have hc : wr.cell? ⟨xb, xo + k, none⟩ = some (.string s) := (hb.cell (p := ⟨xb, xo + k, none⟩) hxb).trans hc0
        have hgc : wr.cell? ⟨g, 1, none⟩ = some (.string ptr) := (hb.cell (p := ⟨g, 1, none⟩) hgl).trans hg
        have HM := hide (meet_walk ptr s wr)
        generalize nearP ptr (ss.take k) = p at *
        have hpl : p.length ≤ 1048577 := by omega
        have HB := hide hb
        have hwsz := hb.size
        clear hst hs hol hol2 hb HAD hg
        cases hl : leads ptr.data.toList s.data.toList with
        | false =>
          rw [hl] at HM HST
          clear hl
          go_wp2_with fail
          refine (unhide HM).mono ?_
          rintro e w2 ⟨rfl, rfl⟩
          clear HM
          have OO := hide hown
          clear hown
          go_wp2
          go_roundw
          case rel => exact ⟨k + 1, by omega, by go_num, by rw [unhide HST]; simpa using unhide OO, unhide HB⟩
          case measure => simp [intOf]; omega
        | true =>
          rw [hl] at HM HST
          clear hl
          go_wp2_with fail
          refine (unhide HM).mono ?_
          rintro e w2 ⟨rfl, rfl⟩
          have HQ := hide (ba_data s)
          clear HM
          go_wp2_with (at_builtin; (refine wpList_append_own _ rfl (.tmp 28) (.tmp 30) 49 rfl w.heap.size 9 i0 (.string ByteArray.empty) 1 16 Tryd.underlying49 hi hz0 hz1 hz2 rfl (by decide) _ _ _ rfl (hown.alloc _) ⟨wr.heap.size, 0, none⟩ 1 1 [.string s] rfl rfl (lit1 _ _ _) (one_tok _) (by unfold maxLen; omega) (by omega) (by simp; omega) ?_))
          intro v2 w3 hown2 hgrow2 _
          have B2 : Below w.heap.size w w3 := ((unhide HB).alloc hwsz _).grown hgrow2 (by simp; omega) (fun k hk => (hown.lt k hk).1)
          have own2 : OT w3 w.heap.size v2 (p ++ [s.data.toList]) := OT.step (t := s.data.toList) (by rw [show tokCell s.data.toList = .string s from congrArg Value.string (unhide HQ)]; exact hown2)
          have OO := hide own2
          have BB := hide B2
          clear hown2 hgrow2 hown own2 B2
          go_wp2
          go_roundw
          case rel => exact ⟨k + 1, by omega, by go_num, by rw [unhide HST]; exact unhide OO, unhide BB⟩
          case measure => simp [intOf]; omega
      · have e : ss.take k = ss := List.take_of_length_le (by omega)
        rw [e] at hown
        have OO := hide hown
        have BB := hide hb
        clear hown hb HAD
        go_wp2
        go_ret
        exact ⟨_, rfl, by simpa using unhide OO, unhide BB⟩
end Go.Proofs.YtbcfkkicmmhhcaaDoor

namespace Go.Proofs.YtbcfkkicmmhhcaaDoor
open Go.RowKit

theorem once_set {ps : List (List Value × List Nat)} (h : Once 0 (ps.flatMap (·.2))) {j : Nat} (hj : j < ps.length) {q : List Value × List Nat} (hq : Once 0 q.2) (hs : ∀ b ∈ q.2, b ∈ ps[j].2 ∨ b ∉ ps.flatMap (·.2)) : Once 0 ((ps.set j q).flatMap (·.2)) := by
  obtain ⟨h1, h2⟩ := once_flat.1 h
  rw [once_zero] at h
  have hap : ∀ (i : Nat) (hi : i < ps.length), i ≠ j → ∀ b ∈ ps[i].2, b ∉ q.2 := fun i hi hij b hb hq => by
    rcases hs b hq with h3 | h3
    · exact nodup_apart h (List.getElem?_eq_getElem hi) (List.getElem?_eq_getElem hj) hij b hb h3
    · exact h3 (List.mem_flatMap.2 ⟨_, List.getElem_mem hi, hb⟩)
  refine once_flat.2 ⟨fun p hp => ?_, ?_⟩
  · rcases List.mem_or_eq_of_mem_set hp with hp | rfl
    · exact h1 p hp
    · exact hq
  · rw [List.pairwise_iff_getElem]
    intro i k hi hk hik a ha b hb _ hab
    subst hab
    have hi' : i < ps.length := by simpa using hi
    have hk' : k < ps.length := by simpa using hk
    by_cases e1 : i = j
    · subst e1
      rw [List.getElem_set_self] at ha
      rw [List.getElem_set_ne (by omega)] at hb
      exact hap k hk' (by omega) a hb ha
    · rw [List.getElem_set_ne (by omega)] at ha
      by_cases e2 : k = j
      · subst e2
        rw [List.getElem_set_self] at hb
        exact hap i hi' e1 a ha hb
      · rw [List.getElem_set_ne (by omega)] at hb
        exact nodup_apart h (List.getElem?_eq_getElem hi') (List.getElem?_eq_getElem hk') (by omega) a ha hb
/-- An element of a row is written anew, and its blocks stay apart. -/
theorem orow_putAll2 {α : Type} {e : Elem α} {ts : List TypeId} (he : ∀ {w vs x bl}, e.E w vs x bl → Tys ts w bl) (hts : e.T ∉ ts) {w : World} {g n cap : Nat} {xs : List α} {cb : List Nat} (h : ORow e w (.slice (some ⟨g, 0, none⟩) n cap) xs (g :: cb)) {j : Nat} (hj : j < xs.length)
    {vs : List Value} {x : α} {ib : List Nat} (hE : e.E w vs x ib) : ∃ cb', ORow e (putN w g (j * e.wd) vs) (.slice (some ⟨g, 0, none⟩) n cap) (xs.set j x) (g :: cb') ∧ (∀ b ∈ cb', b ∈ cb ∨ b ∈ ib) ∧ (Once 0 cb → Once 0 ib → (∀ b ∈ ib, b ∉ cb) → Once 0 cb') := by
  have hty := orow_inner_ty he (cb := cb) h rfl
  have htyi := he hE
  obtain ⟨ps, hl, hE0, ho, hb⟩ := h
  have hn : n = xs.length := by
    rcases ho.2 with ⟨hv, h0⟩ | ⟨g', cap', cur, hv, _⟩
    · cases hv
    · injection hv
  subst hn
  have hcb : cb = ps.flatMap (·.2) := by
    simp [Value.ownBlock] at hb; exact hb
  have hwd := orow_wd hl hE0
  have hnot : ∀ p ∈ ps, g ∉ p.2 := fun p hp hg => hty.not ho hts (g := g) rfl (by rw [hcb]; exact List.mem_flatMap.2 ⟨p, hp, hg⟩)
  have hnoti : g ∉ ib := fun hg => htyi.not ho hts (g := g) rfl hg
  have hk : ∀ bl : List Nat, g ∉ bl → Kp bl w (putN w g (j * e.wd) vs) := fun bl hg b hb => putN_other (k := b) (g := g) (fun e => hg (by rw [← e]; exact hb)) _ _
  refine ⟨(ps.set j (vs, ib)).flatMap (·.2), ⟨ps.set j (vs, ib), by simp [hl], ?_, ?_, by simp [Value.ownBlock]⟩, fun b hb => ?_, fun h1 h2 h3 => ?_⟩
  · intro i p y hp hy
    by_cases hij : i = j
    · subst hij
      rw [List.getElem?_set_self (by omega)] at hp hy
      cases hp; cases hy
      exact e.keep hE (hk _ hnoti)
    · rw [List.getElem?_set_ne (by omega)] at hp hy
      exact e.keep (hE0 i p y hp hy) (hk _ (hnot p (List.mem_of_getElem? hp)))
  · rw [List.length_set, flat_setN hwd (by omega) vs (e.len hE) ib]
    exact putN_own ho vs (j * e.wd)
  · obtain ⟨p, hp, hb⟩ := List.mem_flatMap.1 hb
    rcases List.mem_or_eq_of_mem_set hp with hp | rfl
    · left; rw [hcb]; exact List.mem_flatMap.2 ⟨p, hp, hb⟩
    · exact .inr hb
  · rw [hcb] at h1 h3
    exact once_set h1 (by omega) (q := (vs, ib)) h2 fun b hb => .inr (h3 b hb)

def msg0 : Msg := ⟨0, [], false⟩
theorem RingIs.popped {α : Type} {ms : List α} {f c : Nat} {m z : α} {q : List α} (h : RingIs ms f c (m :: q)) : RingIs (ms.set f z) ((f + 1) % ms.length) (c - 1) q ∧ f < ms.length ∧ ms[f]? = some m ∧ c = q.length + 1 := by
  have hc := h.cnt
  have hle := h.le
  rw [List.length_cons] at hc
  have hf : f < ms.length := by rcases h.lt with h1 | h1; exact h1; rw [h1] at hle; simp at hle; omega
  have h0 := h.at_ 0 m rfl
  rw [Nat.add_zero, Nat.mod_eq_of_lt hf] at h0
  refine ⟨⟨by omega, by rw [List.length_set]; omega, .inl (by rw [List.length_set]; exact Nat.mod_lt _ (by omega)), fun i x hx => ?_⟩, hf, h0, hc⟩
  have hi := (List.getElem?_eq_some_iff.1 hx).1
  have h1 := h.at_ (i + 1) x (by simpa using hx)
  have he : ((f + 1) % ms.length + i) % ms.length = (f + (i + 1)) % ms.length := by
    rw [Nat.mod_add_mod]; congr 1; omega
  have hne : (f + (i + 1)) % ms.length ≠ f := fun e => by
    have h2 : f + (i + 1) = ms.length * ((f + (i + 1)) / ms.length) + f := by
      have := Nat.div_add_mod (f + (i + 1)) ms.length
      omega
    have h3 : i + 1 = ms.length * ((f + (i + 1)) / ms.length) := by omega
    have h4 : 0 < (f + (i + 1)) / ms.length := by
      rcases Nat.eq_zero_or_pos ((f + (i + 1)) / ms.length) with h5 | h5
      · rw [h5] at h3; omega
      · exact h5
    have h6 : ms.length * 1 ≤ ms.length * ((f + (i + 1)) / ms.length) := Nat.mul_le_mul_left _ h4
    omega
  rw [List.length_set, he, List.getElem?_set_ne (Ne.symm hne)]
  exact h1
end Go.Proofs.YtbcfkkicmmhhcaaDoor
