/-
  Reduced words: neighbours that are opposite are left out as the numbers come. Contracts of the model's reduction, and of ReduceWord's program at one word.
-/
import Derived.Test.YtnhiceopgjfaaaaGrp
import Derived.Handy
namespace Go.Proofs.Ytnhiceopgjfaaaa
open Go.RowKit

/-- one number put behind a reduced word that is told from its end -/
def putR (st : List Int) (x : Int) : List Int := match st with
  | [] => [x]
  | y :: t => if y = -x then t else x :: y :: t
def redR (z : List Int) : List Int := z.foldl putR []
def redL (z : List Int) : List Int := (redR z).reverse
theorem redR_snoc (z : List Int) (x : Int) : redR (z ++ [x]) = putR (redR z) x := by simp [redR]
theorem redR_take {z : List Int} {k : Nat} (h : k < z.length) : redR (z.take (k + 1)) = putR (redR (z.take k)) z[k] := by
  rw [List.take_succ_eq_append_getElem h, redR_snoc]
theorem putR_len (st : List Int) (x : Int) : (putR st x).length ≤ st.length + 1 := by
  unfold putR
  split
  · simp
  · split <;> simp <;> omega
theorem foldR_len : ∀ (z st : List Int), (z.foldl putR st).length ≤ st.length + z.length
  | [], st => by simp
  | x :: r, st => by
    have h1 := foldR_len r (putR st x)
    have h2 := putR_len st x
    simp only [List.foldl_cons, List.length_cons]
    omega
theorem redR_len (z : List Int) : (redR z).length ≤ z.length := by have := foldR_len z []; simpa [redR] using this
theorem redL_len (z : List Int) : (redL z).length ≤ z.length := by unfold redL; rw [List.length_reverse]; exact redR_len z

theorem OwnI.cut {w : World} {base : Nat} {g n c : Nat} {ss : List Int} {z : Int} (h : OwnI w base (.slice (some ⟨g, 0, none⟩) (n + 1) c) (ss ++ [z])) : OwnI w base (.slice (some ⟨g, 0, none⟩) n c) ss := by
  obtain ⟨h1, h2⟩ := h
  rcases h2 with ⟨h3, _⟩ | ⟨g', cap, cur, he, hb, hg, hn, hm, hs, ht⟩
  · cases h3
  · injection he with e1 e2 e3
    cases e1
    subst e3
    refine ⟨by simp [cellsI], .inr ⟨g, c, cur, ?_, hb, hg, ?_, hm, hs, ?_⟩⟩
    · have : n = ss.length := by simp at e2; exact e2
      rw [this]
    · simp at hn; omega
    · have := congrArg (List.take (ss.length * 1)) ht
      rw [List.take_take] at this
      simp [cellsI] at this ⊢
      exact this
/-- the last number of an owned row -/
theorem OwnI.last {w : World} {base : Nat} {a : Option Addr} {l c : Nat} {ss : List Int} {z : Int} (h : OwnI w base (.slice a l c) (ss ++ [z])) :
    ∃ g, a = some ⟨g, 0, none⟩ ∧ l = ss.length + 1 ∧ l ≤ c ∧ base ≤ g ∧ g < w.heap.size ∧ w.cell? ⟨g, ss.length, none⟩ = some (.int .i64 z) := by
  obtain ⟨a', c', he, hle, hN⟩ := h.newI
  injection he with e1 e2 e3
  subst e1 e3
  rcases hN with h0 | ⟨g, rfl, hb, hg, _, hI⟩
  · simp at h0
  · refine ⟨g, rfl, by rw [e2]; simp, by rw [e2]; exact hle, hb, hg, ?_⟩
    have := hI ss.length (by simp)
    rw [Nat.zero_add] at this
    rw [this]
    simp

set_option maxRecDepth 100000 in
set_option maxHeartbeats 2000000 in
theorem l09Reduce_c (lo hi : Nat) (a : Option Addr) (cap : Nat) (z : List Int) (hl : z.length ≤ 1000) (hb : ∀ x ∈ z, -3 ≤ x ∧ x ≤ 3) (w : World) (hr : IRow lo hi w a z) (hh : hi ≤ w.heap.size) :
    Calls Try.prog 44 #[.slice a z.length cap] w (IntsPost (redL z) w) := by
  have HT := Lib.hid hr
  have HBd := Lib.hid hb
  have HLe := Lib.hid (fun k => redR_len (z.take k))
  clear hr hb
  go_enter Try.func44, Try.ntmps44
  go_wp2
  go_loopw [3, 4] (fun vs vi wr => ∃ (k c' l : Nat) (a' : Option Addr) (st : List Int), k ≤ z.length ∧ vi = .int .i64 k ∧ vs = .slice a' l c' ∧ l = st.length ∧ st = redR (z.take k) ∧ Below w.heap.size w wr ∧ OwnI wr w.heap.size (.slice a' l c') st.reverse) (fun _ vi _ => z.length - (intOf vi).toNat)
  case atStart => exact ⟨0, 0, 0, _, [], Nat.zero_le _, rfl, rfl, rfl, by simp [redR], below1 _ _, OwnI.emptyRow (heap_alloc_new w _) (Nat.le_refl _)⟩
  case round =>
    obtain ⟨k, c', l, a', st, hk, rfl, rfl, hlst, hst, hB, hO⟩ := hrel
    have hzr := hB.size
    have hsl : st.length ≤ k := by have := HLe.out k; rw [← hst, List.length_take] at this; omega
    by_cases hlt : k < z.length
    · rcases (HT.out.below hB hh) with h | ⟨b', o', rfl, _, hb', hI'⟩
      · rw [h] at hlt; simp at hlt
      have c1 := hI' k hlt
      have hbx := HBd.out z[k] (List.getElem_mem hlt)
      have HS := Lib.hid (redR_take hlt)
      obtain ⟨x, hx⟩ : ∃ x, z[k] = x := ⟨_, rfl⟩
      rw [hx] at c1 HS hbx
      rw [← hst] at HS
      have HB := Lib.hid hB
      have HO := Lib.hid hO
      clear hx hI' hB hO hst
      have e0 : (0 : Int) ≤ (k : Int) := by omega
      have e1 : (k : Int) < (z.length : Int) := by omega
      cases st with
      | nil =>
        have hl0 : l = 0 := hlst
        subst hl0
        clear hlst hsl
        go_wp2
        go_quiet (fail)
        go_wp2_with (at_builtin; refine wpList_append_ints rfl _ _ rfl w.heap.size (.slice a' 0 c') 0 [] [x] rfl rfl (HO.out.alloc _) _ 1 1 rfl rfl (.inr ⟨_, 0, rfl, ints_one _ _⟩) (by omega) (by simp; omega) ?_)
        intro a4 c4 w4 hO4 hG4 _
        have HB4 := Lib.hid ((below_drewN HB.out _).trans (((below1 _ _).mono (by exact hzr)).trans (own_grownI (by exact OwnI.alloc (by exact HO.out) _) hG4 (by simp; omega))))
        have HO4 := Lib.hid hO4
        clear hO4 hG4
        go_wp2
        go_roundw
        case rel => exact ⟨k + 1, c4, 0 + 1, a4, [x], by omega, by go_num, rfl, rfl, by rw [HS.out]; rfl, HB4.out, by simpa using HO4.out⟩
        case measure => simp [intOf]; omega
      | cons y t =>
        obtain ⟨g, rfl, hlg, hlc, hgb, hgs, hcell⟩ := OwnI.last (z := y) (ss := t.reverse) (by have := HO.out; rwa [List.reverse_cons] at this)
        rw [List.length_reverse] at hlg hcell
        subst hlg
        have e2 : ((t.length : Int) + 1) - 1 = (t.length : Int) := by omega
        have hw1 : IntKind.i64.wrap (t.length : Int) = (t.length : Int) := IntWalk.i64_in _ (by simp at hsl; omega)
        have hw2 : IntKind.i64.wrap (-x) = -x := IntWalk.i64_in _ (by omega)
        have e3 : ¬ ((t.length : Int) + 1 = 0) := by omega
        have hlc1 : t.length ≤ c' := by omega
        have hts : t.length ≤ 1000 := by simp at hsl; omega
        clear hlst hsl
        by_cases hy : y = -x
        · subst hy
          go_wp2
          go_quiet (fail)
          go_wp2
          go_roundw
          case rel =>
            refine ⟨k + 1, c', t.length, some ⟨g, 0, none⟩, t, by omega, by go_num, rfl, rfl, by rw [HS.out]; simp [putR], below_drewN HB.out _, ?_⟩
            have := HO.out
            rw [List.reverse_cons] at this
            exact this.cut
          case measure => simp [intOf]; omega
        · have hyd : decide (y = -x) = false := by simp [hy]
          go_wp2
          go_quiet (fail)
          go_wp2_with (at_builtin; refine wpList_append_ints rfl _ _ rfl w.heap.size (.slice (some ⟨g, 0, none⟩) (t.length + 1) c') (t.length + 1) (y :: t).reverse [x] rfl (by simp) (HO.out.alloc _) _ 1 1 rfl rfl (.inr ⟨_, 0, rfl, ints_one _ _⟩) (by omega) (by simp; omega) ?_)
          intro a4 c4 w4 hO4 hG4 _
          have HB4 := Lib.hid ((below_drewN HB.out _).trans (((below1 _ _).mono (by exact hzr)).trans (own_grownI (by exact OwnI.alloc (by exact HO.out) _) hG4 (by simp; omega))))
          have HO4 := Lib.hid hO4
          clear hO4 hG4
          go_wp2
          go_roundw
          case rel => exact ⟨k + 1, c4, t.length + 1 + 1, a4, x :: y :: t, by omega, by go_num, rfl, rfl, by rw [HS.out]; simp [putR, hy], HB4.out, by simpa using HO4.out⟩
          case measure => simp [intOf]; omega
    · obtain rfl : k = z.length := by omega
      rw [List.take_length] at hst
      have HB := Lib.hid hB
      have HO := Lib.hid hO
      have HSt := Lib.hid hst
      clear hB hO hst
      go_wp2
      go_ret
      have e : st.reverse = redL z := by rw [HSt.out]; rfl
      have hlr : l = (redL z).length := by rw [← e, List.length_reverse]; exact hlst
      have hO := HO.out
      rw [e] at hO
      subst hlr
      exact ⟨a', c', rfl, HB.out, hO.at_.2⟩
end Go.Proofs.Ytnhiceopgjfaaaa
