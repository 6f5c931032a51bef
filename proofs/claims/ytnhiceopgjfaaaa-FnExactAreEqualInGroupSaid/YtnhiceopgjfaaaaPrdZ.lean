/-
  Products of elements: their numbers one behind the other, the reduced word of one, and of a word; words that are too long.
-/
import Derived.Test.YtnhiceopgjfaaaaElZ
namespace Go.Proofs.Ytnhiceopgjfaaaa
open Go.RowKit

/-- elements in a row of cells of block `b` -/
def ElsIn (w : World) (b : Nat) (es : List El) : Prop := ∀ i (h : i < es.length), w.cell? ⟨b, i, none⟩ = some (es[i]).val
structure PrdOk (w : World) (b : Nat) (es : List El) : Prop where
  els : ElsIn w b es
  blk : b < w.heap.size
  len : es.length ≤ 4
  ok : ∀ e ∈ es, e.sl.Ok w
theorem PrdOk.below {w w' : World} {b : Nat} {es : List El} (h : PrdOk w b es) (hb : Below w.heap.size w w') : PrdOk w' b es :=
  ⟨fun i hi => (hb.cell (p := ⟨b, i, none⟩) h.blk).trans (h.els i hi), Nat.lt_of_lt_of_le h.blk hb.size, h.len, fun e he => (h.ok e he).below hb⟩
theorem PrdOk.num_len {w : World} {b : Nat} {es : List El} (h : PrdOk w b es) : (allN es).length ≤ 48 := by
  have := allN_len es (fun e he => (h.ok e he).len)
  have := h.len
  omega
theorem PrdOk.num_bd {w : World} {b : Nat} {es : List El} (h : PrdOk w b es) : ∀ x ∈ allN es, -3 ≤ x ∧ x ≤ 3 := allN_bd fun e he => (h.ok e he).bd

set_option maxRecDepth 100000 in
set_option maxHeartbeats 4000000 in
theorem prdNumbers_c (pb n cap : Nat) (es : List El) (w : World) (hn : n = es.length) (hP : PrdOk w pb es) :
    Calls Try.prog 88 #[.slice (some ⟨pb, 0, none⟩) n cap] w (IntsPost (allN es) w) := by
  have HP := Lib.hid hP
  have hn4 : n ≤ 4 := by rw [hn]; exact hP.len
  have HN := Lib.hid hn
  have HT := Lib.hid (fun k (hk : k < es.length) => allN_take hk)
  have HL := Lib.hid (fun k => allN_len (es.take k) (fun e he => (hP.ok e (List.mem_of_mem_take he)).len))
  clear hP hn
  go_enter Try.func88, Try.ntmps88
  go_wp2
  go_loopw [3, 8] (fun vs vi wr => ∃ (k l c : Nat) (a : Option Addr), k ≤ n ∧ vi = .int .i64 k ∧ vs = .slice a l c ∧ Hid (l = (allN (es.take k)).length) ∧ Below w.heap.size w wr ∧ OwnI wr w.heap.size (.slice a l c) (allN (es.take k))) (fun _ vi _ => n - (intOf vi).toNat)
  case atStart => exact ⟨0, 0, 0, none, Nat.zero_le _, rfl, rfl, Lib.hid (by simp [allN]), Below.refl _ _, by simpa [allN] using OwnI.nil w w.heap.size⟩
  case round =>
    obtain ⟨k, l, c, a, hk, rfl, rfl, hl, hB, hO⟩ := hrel
    have hzr := hB.size
    have HB := Lib.hid hB
    have HO := Lib.hid hO
    clear hO
    have hll : l ≤ 48 := by have h1 := HL.out k; have h2 := hl.out; rw [List.length_take] at h1; omega
    by_cases hlt : k < n
    · have hke : k < es.length := by rw [← HN.out]; exact hlt
      have c0 := (hB.cell (p := ⟨pb, k, none⟩) HP.out.blk).trans (HP.out.els k hke)
      have HS := Lib.hid (HT.out k hke)
      have HK := Lib.hid ((HP.out.ok es[k] (List.getElem_mem _)).below hB)
      have hpb : pb < wr.heap.size := Nat.lt_of_lt_of_le HP.out.blk hzr
      obtain ⟨e, he⟩ : ∃ e, es[k] = e := ⟨_, rfl⟩
      rw [he] at c0 HS HK
      have f0 : (0 : Int) ≤ (k : Int) := by omega
      have f1 : (k : Int) < (n : Int) := by omega
      clear he hB
      rcases e with ⟨a1, c1, z⟩ | ⟨a1, c1, z⟩
      · simp only [El.val, Sl.val] at c0
        simp only [El.num] at HS
        have hz12 : z.length ≤ 12 := HK.out.len
        go_wp2_with fail
        refine (groupNumbers_c _ _ _ _).mono ?_
        rintro e w' ⟨rfl, rfl⟩
        go_wp2_with (at_builtin; refine wpList_append_ints rfl _ _ rfl w.heap.size (.slice a l c) l (allN (es.take k)) z rfl hl.out HO.out a1 z.length c1 rfl rfl HK.out.row.src (by omega) hzr ?_)
        intro a4 c4 w4 hO4 hG4 _
        have HB4 := Lib.hid (HB.out.trans (own_grownI HO.out hG4 hzr))
        have HO4 := Lib.hid hO4
        clear hO4 hG4
        go_wp2
        go_roundw
        case rel => exact ⟨k + 1, l + z.length, c4, a4, by omega, by go_num, rfl, Lib.hid (by rw [HS.out, List.length_append, ← hl.out]), HB4.out, by rw [HS.out]; exact HO4.out⟩
        case measure => simp [intOf]; omega
      · simp only [El.val, Sl.val] at c0
        simp only [El.num] at HS
        have hz12 : z.length ≤ 12 := HK.out.len
        have HIL := Lib.hid (invL_length z)
        go_wp2_with fail
        refine (invNumbers_c 0 wr.heap.size a1 c1 z (by omega) HK.out.bd wr HK.out.row (Nat.le_refl _)).mono ?_
        rintro e w3 ⟨a3, c3, rfl, hb3, hN3⟩
        have hz3 := hb3.size
        have HN3 := Lib.hid hN3.row.src
        have HO3 := Lib.hid (HO.out.below hb3 (fun g hg => (HO.out.lt g hg).2))
        have HB3 := Lib.hid (HB.out.trans (hb3.mono hzr))
        clear hb3 hN3
        go_wp2_with (at_builtin; refine wpList_append_ints rfl _ _ rfl w.heap.size (.slice a l c) l (allN (es.take k)) (invL z) rfl hl.out HO3.out a3 (invL z).length c3 rfl rfl HN3.out (by rw [HIL.out]; omega) (by omega) ?_)
        intro a4 c4 w4 hO4 hG4 _
        have HB4 := Lib.hid (HB3.out.trans (own_grownI HO3.out hG4 (by omega)))
        have HO4 := Lib.hid hO4
        clear hO4 hG4
        go_wp2
        go_roundw
        case rel => exact ⟨k + 1, l + (invL z).length, c4, a4, by omega, by go_num, rfl, Lib.hid (by rw [HS.out, List.length_append, ← hl.out]), HB4.out, by rw [HS.out]; exact HO4.out⟩
        case measure => simp [intOf]; omega
    · obtain rfl : k = n := by omega
      have hO := HO.out
      have hl' := hl.out
      have e : es.take k = es := List.take_of_length_le (by rw [← HN.out]; exact Nat.le_refl _)
      rw [e] at hO hl'
      have HO := Lib.hid hO
      have HLe := Lib.hid hl'
      clear hO hl' hB
      go_wp2
      go_ret
      exact ⟨a, c, by first | (rw [HLe.out]; done) | (rw [HLe.out]; rfl), HB.out, HO.out.at_.2⟩

set_option maxRecDepth 100000 in
set_option maxHeartbeats 4000000 in
theorem redWord_c (lo hi : Nat) (a : Option Addr) (cap : Nat) (z : List Int) (hl : z.length ≤ 1000) (hb : ∀ x ∈ z, -3 ≤ x ∧ x ≤ 3) (w : World) (hr : IRow lo hi w a z) (hh : hi ≤ w.heap.size) :
    Calls Try.prog 45 #[.iface 45 (.slice a z.length cap)] w (IntsPost (redL z) w) := by
  obtain ⟨w8, hw8⟩ : ∃ w8 : World, w8 = w := ⟨_, rfl⟩
  have HT := Lib.hid (show IRow lo w8.heap.size w8 a z from by rw [hw8]; exact hr.mono (Nat.le_refl _) hh)
  have HB8 := Lib.hid (show Below w.heap.size w w8 from by rw [hw8]; exact Below.refl _ _)
  have HBd := Lib.hid hb
  have HLe := Lib.hid (fun k => redR_len (z.take k))
  have HW8 := Lib.hid hw8
  clear hr hb hw8
  go_enter Try.func45, Try.ntmps45
  go_wp2_with fail
  refine (groupNumbers_c _ _ _ _).mono ?_
  rintro e w' ⟨rfl, rfl⟩
  go_wp2
  go_loopw [3, 10] (fun vs vi wr => ∃ (k c' l : Nat) (a' : Option Addr) (st : List Int), k ≤ z.length ∧ vi = .int .i64 k ∧ vs = .slice a' l c' ∧ l = st.length ∧ st = redR (z.take k) ∧ Below w.heap.size w wr ∧ Below w8.heap.size w8 wr ∧ OwnI wr w8.heap.size (.slice a' l c') st.reverse) (fun _ vi _ => z.length - (intOf vi).toNat)
  case atStart => exact ⟨0, 0, 0, none, [], Nat.zero_le _, rfl, rfl, rfl, by simp [redR], Below.refl _ _, by rw [HW8.out]; exact Below.refl _ _, OwnI.nil _ _⟩
  case round =>
    obtain ⟨k, c', l, a', st, hk, rfl, rfl, hlst, hst, hB0, hB, hO⟩ := hrel
    have hzr := hB.size
    have hzr0 := HB8.out.size
    have hsl : st.length ≤ k := by have := HLe.out k; rw [← hst, List.length_take] at this; omega
    by_cases hlt : k < z.length
    · rcases (HT.out.below hB (Nat.le_refl _)) with h | ⟨b', o', rfl, _, hb', hI'⟩
      · rw [h] at hlt; simp at hlt
      have c1 := hI' k hlt
      have hbx := HBd.out z[k] (List.getElem_mem hlt)
      have HS := Lib.hid (redR_take hlt)
      obtain ⟨x, hx⟩ : ∃ x, z[k] = x := ⟨_, rfl⟩
      rw [hx] at c1 HS hbx
      rw [← hst] at HS
      have HB := Lib.hid hB
      have HB0 := Lib.hid hB0
      have HO := Lib.hid hO
      have e0 : (0 : Int) ≤ (k : Int) := by omega
      have e1 : (k : Int) < (z.length : Int) := by omega
      clear hx hI' hB hB0 hO hst
      cases st with
      | nil =>
        have hl0 : l = 0 := hlst
        subst hl0
        clear hlst hsl
        go_wp2_with (at_builtin; refine wpList_append_ints rfl _ _ rfl w8.heap.size (.slice a' 0 c') 0 [] [x] rfl rfl (HO.out.alloc _) _ 1 1 rfl rfl (.inr ⟨_, 0, rfl, ints_one _ _⟩) (by omega) (by simp; omega) ?_)
        intro a4 c4 w4 hO4 hG4 _
        have hg4 := ((below1 wr _).mono (by exact hzr)).trans (own_grownI (by exact OwnI.alloc (by exact HO.out) _) hG4 (by simp; omega))
        have HB4 := Lib.hid (HB.out.trans hg4)
        have HB40 := Lib.hid (HB8.out.trans (HB4.out.mono hzr0))
        have HO4 := Lib.hid hO4
        clear hO4 hG4 hg4
        go_wp2
        go_roundw
        case rel => exact ⟨k + 1, c4, 0 + 1, a4, [x], by omega, by go_num, rfl, rfl, by rw [HS.out]; rfl, HB40.out, HB4.out, by simpa using HO4.out⟩
        case measure => simp [intOf]; omega
      | cons y t =>
        obtain ⟨g, rfl, hlg, hlc, hgb, hgs, hcell⟩ := OwnI.last (z := y) (ss := t.reverse) (by have := HO.out; rwa [List.reverse_cons] at this)
        rw [List.length_reverse] at hlg hcell
        subst hlg
        have e2 : ((t.length : Int) + 1) - 1 = (t.length : Int) := by omega
        have hw1 : IntKind.i64.wrap (t.length : Int) = (t.length : Int) := IntWalk.i64_in _ (by simp at hsl; omega)
        have hw2 : IntKind.i64.wrap (-x) = -x := IntWalk.i64_in _ (by omega)
        have hlc1 : t.length ≤ c' := by omega
        have e5 : (0 : Int) ≤ (t.length : Int) := by omega
        have hts : t.length ≤ 1000 := by simp at hsl; omega
        clear hlst hsl
        by_cases hy : y = -x
        · subst hy
          go_wp2
          go_roundw
          case rel =>
            refine ⟨k + 1, c', t.length, some ⟨g, 0, none⟩, t, by omega, by go_num, rfl, rfl, by rw [HS.out]; simp [putR], HB0.out, HB.out, ?_⟩
            have := HO.out
            rw [List.reverse_cons] at this
            exact this.cut
          case measure => simp [intOf]; omega
        · go_wp2_with (at_builtin; refine wpList_append_ints rfl _ _ rfl w8.heap.size (.slice (some ⟨g, 0, none⟩) (t.length + 1) c') (t.length + 1) (y :: t).reverse [x] rfl (by simp) (HO.out.alloc _) _ 1 1 rfl rfl (.inr ⟨_, 0, rfl, ints_one _ _⟩) (by omega) (by simp; omega) ?_)
          intro a4 c4 w4 hO4 hG4 _
          have hg4 := ((below1 wr _).mono (by exact hzr)).trans (own_grownI (by exact OwnI.alloc (by exact HO.out) _) hG4 (by simp; omega))
          have HB4 := Lib.hid (HB.out.trans hg4)
          have HB40 := Lib.hid (HB8.out.trans (HB4.out.mono hzr0))
          have HO4 := Lib.hid hO4
          clear hO4 hG4 hg4
          go_wp2
          go_roundw
          case rel => exact ⟨k + 1, c4, t.length + 1 + 1, a4, x :: y :: t, by omega, by go_num, rfl, rfl, by rw [HS.out]; simp [putR, hy], HB40.out, HB4.out, by simpa using HO4.out⟩
          case measure => simp [intOf]; omega
    · obtain rfl : k = z.length := by omega
      rw [List.take_length] at hst
      have HB0 := Lib.hid hB0
      have HO := Lib.hid hO
      have HSt := Lib.hid hst
      clear hB hB0 hO hst
      go_wp2
      go_ret
      have e : st.reverse = redL z := by rw [HSt.out]; rfl
      have hlr : l = (redL z).length := by rw [← e, List.length_reverse]; exact hlst
      have hO := HO.out
      rw [e] at hO
      subst hlr
      exact ⟨a', c', rfl, HB0.out, hO.at_.2.mono hzr0 (Nat.le_refl _)⟩

set_option maxRecDepth 100000 in
set_option maxHeartbeats 4000000 in
theorem redPrd_c (pb n cap : Nat) (es : List El) (w : World) (hn : n = es.length) (hP : PrdOk w pb es) :
    Calls Try.prog 45 #[.iface 54 (.slice (some ⟨pb, 0, none⟩) n cap)] w (IntsPost (redL (allN es)) w) := by
  have HC := Lib.hid (prdNumbers_c pb n cap es w hn hP)
  have HBd := Lib.hid hP.num_bd
  have hl := hP.num_len
  obtain ⟨z, hz⟩ : ∃ z, allN es = z := ⟨_, rfl⟩
  rw [hz] at HC HBd hl ⊢
  have HLe := Lib.hid (fun k => redR_len (z.take k))
  clear hn hP hz
  go_enter Try.func45, Try.ntmps45
  go_wp2_with fail
  refine HC.out.mono ?_
  rintro e w8 ⟨a, cap8, rfl, hb8, hN8⟩
  have HB8 := Lib.hid hb8
  have HT := Lib.hid hN8.row
  clear hb8 hN8
  go_wp2
  go_loopw [3, 10] (fun vs vi wr => ∃ (k c' l : Nat) (a' : Option Addr) (st : List Int), k ≤ z.length ∧ vi = .int .i64 k ∧ vs = .slice a' l c' ∧ l = st.length ∧ st = redR (z.take k) ∧ Below w.heap.size w wr ∧ Below w8.heap.size w8 wr ∧ OwnI wr w8.heap.size (.slice a' l c') st.reverse) (fun _ vi _ => z.length - (intOf vi).toNat)
  case atStart => exact ⟨0, 0, 0, none, [], Nat.zero_le _, rfl, rfl, rfl, by simp [redR], HB8.out, Below.refl _ _, OwnI.nil _ _⟩
  case round =>
    obtain ⟨k, c', l, a', st, hk, rfl, rfl, hlst, hst, hB0, hB, hO⟩ := hrel
    have hzr := hB.size
    have hzr0 := HB8.out.size
    have hsl : st.length ≤ k := by have := HLe.out k; rw [← hst, List.length_take] at this; omega
    by_cases hlt : k < z.length
    · rcases (HT.out.below hB (Nat.le_refl _)) with h | ⟨b', o', rfl, _, hb', hI'⟩
      · rw [h] at hlt; simp at hlt
      have c1 := hI' k hlt
      have hbx := HBd.out z[k] (List.getElem_mem hlt)
      have HS := Lib.hid (redR_take hlt)
      obtain ⟨x, hx⟩ : ∃ x, z[k] = x := ⟨_, rfl⟩
      rw [hx] at c1 HS hbx
      rw [← hst] at HS
      have HB := Lib.hid hB
      have HB0 := Lib.hid hB0
      have HO := Lib.hid hO
      have e0 : (0 : Int) ≤ (k : Int) := by omega
      have e1 : (k : Int) < (z.length : Int) := by omega
      clear hx hI' hB hB0 hO hst
      cases st with
      | nil =>
        have hl0 : l = 0 := hlst
        subst hl0
        clear hlst hsl
        go_wp2_with (at_builtin; refine wpList_append_ints rfl _ _ rfl w8.heap.size (.slice a' 0 c') 0 [] [x] rfl rfl (HO.out.alloc _) _ 1 1 rfl rfl (.inr ⟨_, 0, rfl, ints_one _ _⟩) (by omega) (by simp; omega) ?_)
        intro a4 c4 w4 hO4 hG4 _
        have hg4 := ((below1 wr _).mono (by exact hzr)).trans (own_grownI (by exact OwnI.alloc (by exact HO.out) _) hG4 (by simp; omega))
        have HB4 := Lib.hid (HB.out.trans hg4)
        have HB40 := Lib.hid (HB8.out.trans (HB4.out.mono hzr0))
        have HO4 := Lib.hid hO4
        clear hO4 hG4 hg4
        go_wp2
        go_roundw
        case rel => exact ⟨k + 1, c4, 0 + 1, a4, [x], by omega, by go_num, rfl, rfl, by rw [HS.out]; rfl, HB40.out, HB4.out, by simpa using HO4.out⟩
        case measure => simp [intOf]; omega
      | cons y t =>
        obtain ⟨g, rfl, hlg, hlc, hgb, hgs, hcell⟩ := OwnI.last (z := y) (ss := t.reverse) (by have := HO.out; rwa [List.reverse_cons] at this)
        rw [List.length_reverse] at hlg hcell
        subst hlg
        have e2 : ((t.length : Int) + 1) - 1 = (t.length : Int) := by omega
        have hw1 : IntKind.i64.wrap (t.length : Int) = (t.length : Int) := IntWalk.i64_in _ (by simp at hsl; omega)
        have hw2 : IntKind.i64.wrap (-x) = -x := IntWalk.i64_in _ (by omega)
        have hlc1 : t.length ≤ c' := by omega
        have e5 : (0 : Int) ≤ (t.length : Int) := by omega
        have hts : t.length ≤ 1000 := by simp at hsl; omega
        clear hlst hsl
        by_cases hy : y = -x
        · subst hy
          go_wp2
          go_roundw
          case rel =>
            refine ⟨k + 1, c', t.length, some ⟨g, 0, none⟩, t, by omega, by go_num, rfl, rfl, by rw [HS.out]; simp [putR], HB0.out, HB.out, ?_⟩
            have := HO.out
            rw [List.reverse_cons] at this
            exact this.cut
          case measure => simp [intOf]; omega
        · go_wp2_with (at_builtin; refine wpList_append_ints rfl _ _ rfl w8.heap.size (.slice (some ⟨g, 0, none⟩) (t.length + 1) c') (t.length + 1) (y :: t).reverse [x] rfl (by simp) (HO.out.alloc _) _ 1 1 rfl rfl (.inr ⟨_, 0, rfl, ints_one _ _⟩) (by omega) (by simp; omega) ?_)
          intro a4 c4 w4 hO4 hG4 _
          have hg4 := ((below1 wr _).mono (by exact hzr)).trans (own_grownI (by exact OwnI.alloc (by exact HO.out) _) hG4 (by simp; omega))
          have HB4 := Lib.hid (HB.out.trans hg4)
          have HB40 := Lib.hid (HB8.out.trans (HB4.out.mono hzr0))
          have HO4 := Lib.hid hO4
          clear hO4 hG4 hg4
          go_wp2
          go_roundw
          case rel => exact ⟨k + 1, c4, t.length + 1 + 1, a4, x :: y :: t, by omega, by go_num, rfl, rfl, by rw [HS.out]; simp [putR, hy], HB40.out, HB4.out, by simpa using HO4.out⟩
          case measure => simp [intOf]; omega
    · obtain rfl : k = z.length := by omega
      rw [List.take_length] at hst
      have HB0 := Lib.hid hB0
      have HO := Lib.hid hO
      have HSt := Lib.hid hst
      clear hB hB0 hO hst
      go_wp2
      go_ret
      have e : st.reverse = redL z := by rw [HSt.out]; rfl
      have hlr : l = (redL z).length := by rw [← e, List.length_reverse]; exact hlst
      have hO := HO.out
      rw [e] at hO
      subst hlr
      exact ⟨a', c', rfl, HB0.out, hO.at_.2.mono hzr0 (Nat.le_refl _)⟩

section
variable (pb n cap : Nat) (es : List El) (w : World) (hn : n = es.length) (hP : PrdOk w pb es)
include hn hP
theorem shortWord_1 (h : (redL (allN es)).length ≤ 12) :
    Calls Try.prog 49 #[.iface 54 (.slice (some ⟨pb, 0, none⟩) n cap)] w (NumsPost (redL (allN es)) 0 w) := by
  have HC := Lib.hid (redPrd_c pb n cap es w hn hP)
  obtain ⟨z, hz⟩ : ∃ z, redL (allN es) = z := ⟨_, rfl⟩
  rw [hz] at HC h ⊢
  clear hn hP hz
  go_enter Try.func49, Try.ntmps49
  go_wp2_with fail
  refine HC.out.mono ?_
  rintro e w8 ⟨a, cap8, rfl, hb8, hN8⟩
  go_wp2
  go_ret2
  exact ⟨a, cap8, rfl, hb8, hN8⟩
theorem shortWord_2 (h : ¬ (redL (allN es)).length ≤ 12) :
    Calls Try.prog 49 #[.iface 54 (.slice (some ⟨pb, 0, none⟩) n cap)] w (NumsPost [] 3 w) := by
  have HC := Lib.hid (redPrd_c pb n cap es w hn hP)
  obtain ⟨z, hz⟩ : ∃ z, redL (allN es) = z := ⟨_, rfl⟩
  rw [hz] at HC h
  clear hn hP hz
  go_enter Try.func49, Try.ntmps49
  go_wp2_with fail
  refine HC.out.mono ?_
  rintro e w8 ⟨a, cap8, rfl, hb8, hN8⟩
  go_wp2
  go_ret2
  exact ⟨none, 0, rfl, hb8, .inl rfl⟩
end
end Go.Proofs.Ytnhiceopgjfaaaa
