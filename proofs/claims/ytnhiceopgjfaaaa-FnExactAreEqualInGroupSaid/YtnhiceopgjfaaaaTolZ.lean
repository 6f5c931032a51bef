/-
  The model's reduced word of words one behind the other, or the code of one that is too long.
-/
import Derived.Test.YtnhiceopgjfaaaaPrdZ
namespace Go.Proofs.Ytnhiceopgjfaaaa
open Go.RowKit

def SlsIn (w : World) (b : Nat) (ls : List Sl) : Prop := ∀ i (h : i < ls.length), w.cell? ⟨b, i, none⟩ = some (ls[i]).val
structure TolOk (w : World) (b : Nat) (ls : List Sl) : Prop where
  els : SlsIn w b ls
  blk : b < w.heap.size
  len : ls.length ≤ 4
  ok : ∀ s ∈ ls, s.Ok w
def allS (ls : List Sl) : List Int := ls.flatMap Sl.z
theorem allS_take {ls : List Sl} {k : Nat} (h : k < ls.length) : allS (ls.take (k + 1)) = allS (ls.take k) ++ (ls[k]).z := by
  unfold allS; rw [List.take_succ_eq_append_getElem h, List.flatMap_append]; simp
theorem allS_len : ∀ (ls : List Sl), (∀ s ∈ ls, s.z.length ≤ 12) → (allS ls).length ≤ 12 * ls.length
  | [], _ => by simp [allS]
  | e :: r, h => by
    have h1 := allS_len r (fun x hx => h x (List.mem_cons_of_mem _ hx))
    have h2 := h e (List.mem_cons_self ..)
    simp only [allS, List.flatMap_cons, List.length_append, List.length_cons] at h1 ⊢
    omega
theorem allS_bd {ls : List Sl} (h : ∀ s ∈ ls, ∀ x ∈ s.z, -3 ≤ x ∧ x ≤ 3) : ∀ x ∈ allS ls, -3 ≤ x ∧ x ≤ 3 := fun x hx => by
  simp only [allS, List.mem_flatMap] at hx
  obtain ⟨e, he, hx⟩ := hx
  exact h e he x hx

section
variable (lb n cap : Nat) (ls : List Sl) (w : World) (hn : n = ls.length) (hP : TolOk w lb ls)
include hn hP
set_option maxRecDepth 100000 in
set_option maxHeartbeats 4000000 in
theorem told_1 (z0 : List Int) (h0 : redL (allS ls) = z0) (h : (redL (allS ls)).length ≤ 12) :
    Calls Try.prog 48 #[.slice (some ⟨lb, 0, none⟩) n cap] w (NumsPost z0 0 w) := by
  subst h0
  obtain ⟨y, hy⟩ : ∃ y, redL (allS ls) = y := ⟨_, rfl⟩
  rw [hy]
  have HY := Lib.hid hy
  clear hy
  have HP := Lib.hid hP
  have hn4 : n ≤ 4 := by rw [hn]; exact hP.len
  have HN := Lib.hid hn
  have HT := Lib.hid (fun k (hk : k < ls.length) => allS_take hk)
  have HL := Lib.hid (fun k => allS_len (ls.take k) (fun s hs => (hP.ok s (List.mem_of_mem_take hs)).len))
  have HBd := Lib.hid (allS_bd (ls := ls) fun s hs => (hP.ok s hs).bd)
  have HZ := Lib.hid h
  clear hP hn h
  go_enter Try.func48, Try.ntmps48
  go_wp2
  go_loopw [4, 5] (fun vs vi wr => ∃ (k l c : Nat) (a : Option Addr), k ≤ n ∧ vi = .int .i64 k ∧ vs = .slice a l c ∧ Hid (l = (allS (ls.take k)).length) ∧ Below w.heap.size w wr ∧ OwnI wr w.heap.size (.slice a l c) (allS (ls.take k))) (fun _ vi _ => n - (intOf vi).toNat)
  case atStart => exact ⟨0, 0, 0, _, Nat.zero_le _, rfl, rfl, Lib.hid (by simp [allS]), below1 _ _, by simpa [allS] using OwnI.emptyRow (heap_alloc_new w _) (Nat.le_refl _)⟩
  case round =>
    obtain ⟨k, l, c, a, hk, rfl, rfl, hl, hB, hO⟩ := hrel
    have hzr := hB.size
    have HB := Lib.hid hB
    have HO := Lib.hid hO
    clear hO
    have hll : l ≤ 48 := by have h1 := HL.out k; have h2 := hl.out; rw [List.length_take] at h1; omega
    by_cases hlt : k < n
    · have hke : k < ls.length := by rw [← HN.out]; exact hlt
      have c0 := (hB.cell (p := ⟨lb, k, none⟩) HP.out.blk).trans (HP.out.els k hke)
      have HS := Lib.hid (HT.out k hke)
      have HK := Lib.hid ((HP.out.ok ls[k] (List.getElem_mem _)).below hB)
      have hpb : lb < wr.heap.size := Nat.lt_of_lt_of_le HP.out.blk hzr
      obtain ⟨e, he⟩ : ∃ e, ls[k] = e := ⟨_, rfl⟩
      rw [he] at c0 HS HK
      have f0 : (0 : Int) ≤ (k : Int) := by omega
      have f1 : (k : Int) < (n : Int) := by omega
      clear he hB
      obtain ⟨a1, c1, z⟩ := e
      simp only [Sl.val] at c0
      have hz12 : z.length ≤ 12 := HK.out.len
      go_wp2_with (at_builtin; refine wpList_append_ints rfl _ _ rfl w.heap.size (.slice a l c) l (allS (ls.take k)) z rfl hl.out HO.out a1 z.length c1 rfl rfl HK.out.row.src (by omega) hzr ?_)
      intro a4 c4 w4 hO4 hG4 _
      have HB4 := Lib.hid (HB.out.trans (own_grownI HO.out hG4 hzr))
      have HO4 := Lib.hid hO4
      clear hO4 hG4
      go_wp2
      go_roundw
      case rel => exact ⟨k + 1, l + z.length, c4, a4, by omega, by go_num, rfl, Lib.hid (by rw [HS.out, List.length_append, ← hl.out]), HB4.out, by rw [HS.out]; exact HO4.out⟩
      case measure => simp [intOf]; omega
    · obtain rfl : k = n := by omega
      have hO := HO.out
      have hl' := hl.out
      have e : ls.take k = ls := List.take_of_length_le (by rw [← HN.out]; exact Nat.le_refl _)
      rw [e] at hO hl'
      have hN := hO.at_.2.row
      obtain ⟨z, hz⟩ : ∃ z, allS ls = z := ⟨_, rfl⟩
      rw [hz] at hl' hN HBd HZ HY
      subst hl'
      have HNr := Lib.hid hN
      clear hO hB HO hl hz hN
      go_wp2_with fail
      refine (l09Reduce_c _ _ a c z (by omega) HBd.out wr HNr.out (Nat.le_refl _)).mono ?_
      rintro e w2 ⟨a2, c2, rfl, hb2, hN2⟩
      have hle := HZ.out
      have HB2 := Lib.hid (HB.out.trans (hb2.mono hzr))
      have HN2 := Lib.hid (hN2.mono hzr (Nat.le_refl _))
      obtain ⟨r, hr⟩ : ∃ r, redL z = r := ⟨_, rfl⟩
      rw [hr] at hle HN2 HY ⊢
      clear hb2 hN2 hr HZ
      go_wp2
      go_ret2
      rw [← HY.out]
      exact ⟨a2, c2, rfl, HB2.out, HN2.out⟩
set_option maxRecDepth 100000 in
set_option maxHeartbeats 4000000 in
theorem told_2 (h : ¬ (redL (allS ls)).length ≤ 12) :
    Calls Try.prog 48 #[.slice (some ⟨lb, 0, none⟩) n cap] w (NumsPost [] 3 w) := by
  have HP := Lib.hid hP
  have hn4 : n ≤ 4 := by rw [hn]; exact hP.len
  have HN := Lib.hid hn
  have HT := Lib.hid (fun k (hk : k < ls.length) => allS_take hk)
  have HL := Lib.hid (fun k => allS_len (ls.take k) (fun s hs => (hP.ok s (List.mem_of_mem_take hs)).len))
  have HBd := Lib.hid (allS_bd (ls := ls) fun s hs => (hP.ok s hs).bd)
  have HZ := Lib.hid h
  clear hP hn h
  go_enter Try.func48, Try.ntmps48
  go_wp2
  go_loopw [4, 5] (fun vs vi wr => ∃ (k l c : Nat) (a : Option Addr), k ≤ n ∧ vi = .int .i64 k ∧ vs = .slice a l c ∧ Hid (l = (allS (ls.take k)).length) ∧ Below w.heap.size w wr ∧ OwnI wr w.heap.size (.slice a l c) (allS (ls.take k))) (fun _ vi _ => n - (intOf vi).toNat)
  case atStart => exact ⟨0, 0, 0, _, Nat.zero_le _, rfl, rfl, Lib.hid (by simp [allS]), below1 _ _, by simpa [allS] using OwnI.emptyRow (heap_alloc_new w _) (Nat.le_refl _)⟩
  case round =>
    obtain ⟨k, l, c, a, hk, rfl, rfl, hl, hB, hO⟩ := hrel
    have hzr := hB.size
    have HB := Lib.hid hB
    have HO := Lib.hid hO
    clear hO
    have hll : l ≤ 48 := by have h1 := HL.out k; have h2 := hl.out; rw [List.length_take] at h1; omega
    by_cases hlt : k < n
    · have hke : k < ls.length := by rw [← HN.out]; exact hlt
      have c0 := (hB.cell (p := ⟨lb, k, none⟩) HP.out.blk).trans (HP.out.els k hke)
      have HS := Lib.hid (HT.out k hke)
      have HK := Lib.hid ((HP.out.ok ls[k] (List.getElem_mem _)).below hB)
      have hpb : lb < wr.heap.size := Nat.lt_of_lt_of_le HP.out.blk hzr
      obtain ⟨e, he⟩ : ∃ e, ls[k] = e := ⟨_, rfl⟩
      rw [he] at c0 HS HK
      have f0 : (0 : Int) ≤ (k : Int) := by omega
      have f1 : (k : Int) < (n : Int) := by omega
      clear he hB
      obtain ⟨a1, c1, z⟩ := e
      simp only [Sl.val] at c0
      have hz12 : z.length ≤ 12 := HK.out.len
      go_wp2_with (at_builtin; refine wpList_append_ints rfl _ _ rfl w.heap.size (.slice a l c) l (allS (ls.take k)) z rfl hl.out HO.out a1 z.length c1 rfl rfl HK.out.row.src (by omega) hzr ?_)
      intro a4 c4 w4 hO4 hG4 _
      have HB4 := Lib.hid (HB.out.trans (own_grownI HO.out hG4 hzr))
      have HO4 := Lib.hid hO4
      clear hO4 hG4
      go_wp2
      go_roundw
      case rel => exact ⟨k + 1, l + z.length, c4, a4, by omega, by go_num, rfl, Lib.hid (by rw [HS.out, List.length_append, ← hl.out]), HB4.out, by rw [HS.out]; exact HO4.out⟩
      case measure => simp [intOf]; omega
    · obtain rfl : k = n := by omega
      have hO := HO.out
      have hl' := hl.out
      have e : ls.take k = ls := List.take_of_length_le (by rw [← HN.out]; exact Nat.le_refl _)
      rw [e] at hO hl'
      have hN := hO.at_.2.row
      obtain ⟨z, hz⟩ : ∃ z, allS ls = z := ⟨_, rfl⟩
      rw [hz] at hl' hN HBd HZ
      subst hl'
      have HNr := Lib.hid hN
      clear hO hB HO hl hz hN
      go_wp2_with fail
      refine (l09Reduce_c _ _ a c z (by omega) HBd.out wr HNr.out (Nat.le_refl _)).mono ?_
      rintro e w2 ⟨a2, c2, rfl, hb2, hN2⟩
      have hle := HZ.out
      have HB2 := Lib.hid (HB.out.trans (hb2.mono hzr))
      have HN2 := Lib.hid (hN2.mono hzr (Nat.le_refl _))
      obtain ⟨r, hr⟩ : ∃ r, redL z = r := ⟨_, rfl⟩
      rw [hr] at hle HN2 ⊢
      clear hb2 hN2 hr HZ
      go_wp2
      go_ret2
      exact ⟨none, 0, rfl, HB2.out, .inl rfl⟩
end
end Go.Proofs.Ytnhiceopgjfaaaa
