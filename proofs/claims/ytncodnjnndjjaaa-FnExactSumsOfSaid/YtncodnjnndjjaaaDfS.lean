/-
  Contracts of DifferencesOf and SumsOf, of the program and of the model.
-/
import Derived.Test.YtncodnjnndjjaaaLst
namespace Go.Proofs.Ytncodnjnndjjaaa
open Go.RowKit

section
variable (a : Option Addr) (cap : Nat) (z : List Int) (hl : z.length ≤ 1048576) (w : World) (hr : IRow 0 w.heap.size w a z)
include hl hr
theorem sDiff_1 (h : lstB 1 z = false) : Calls Try.prog 29 #[.slice a z.length cap] w (NumsPost [] 2 w) := by
  have H := Lib.hid (l10List_c 0 w.heap.size a cap z hl w hr 1 (.inr rfl))
  have HB := Lib.hid h
  clear hr h
  go_enter Try.func29, Try.ntmps29
  go_wp2_with (go_at_call 40; refine H.out.mono ?_; rw [HB.out]; rintro e w' ⟨rfl, rfl⟩)
  go_ret2
  exact ⟨none, 0, rfl, Below.refl _ _, .inl rfl⟩
theorem iDiff_1 (h : lstB 1 z = false) : Calls Try.prog 30 #[.slice a z.length cap] w (NumsPost [] 2 w) := by
  have H := Lib.hid (isNumberList_c 0 w.heap.size a cap z hl w hr)
  clear hr
  cases hb : listB z with
  | false =>
    rw [hb] at H
    clear h hb
    go_enter Try.func30, Try.ntmps30
    go_wp2_with (go_at_call 42; refine H.out.mono ?_; rintro e w' ⟨rfl, rfl⟩)
    go_ret2
    exact ⟨none, 0, rfl, Below.refl _ _, .inl rfl⟩
  | true =>
    rw [hb] at H
    have h0 : z.length = 0 := by
      rcases Nat.eq_zero_or_pos z.length with h0 | h0
      · exact h0
      · rw [lstB_yes hb (by omega)] at h; cases h
    have e : z = [] := List.eq_nil_of_length_eq_zero h0
    subst e
    clear h hb h0
    go_enter Try.func30, Try.ntmps30
    go_wp2_with (go_at_call 42; refine H.out.mono ?_; rintro e w' ⟨rfl, rfl⟩)
    go_ret2
    exact ⟨none, 0, rfl, Below.refl _ _, .inl rfl⟩

set_option maxRecDepth 100000 in
set_option maxHeartbeats 2000000 in
theorem sDiff_2 (h : lstB 1 z = true) : Calls Try.prog 29 #[.slice a z.length cap] w (NumsPost (diffL z) 0 w) := by
  have H := Lib.hid (l10List_c 0 w.heap.size a cap z hl w hr 1 (.inr rfl))
  have HB := Lib.hid h
  have HT := Lib.hid hr
  unfold lstB at h
  simp only [Bool.and_eq_true, decide_eq_true_eq] at h
  have hz1 := h.2
  obtain ⟨h12, hbd⟩ := listB_true h.1
  have HBd := Lib.hid hbd
  have HLen := Lib.hid (diffL_length z)
  clear hr h hbd
  go_enter Try.func29, Try.ntmps29
  go_wp2_with (go_at_call 40; refine H.out.mono ?_; rw [HB.out]; rintro e w' ⟨rfl, rfl⟩)
  go_loopw [4, 5] (fun vs vi wr => ∃ (k l c' : Nat) (a' : Option Addr), k + 1 ≤ z.length ∧ vi = .int .i64 ((k : Int) + 1) ∧ vs = .slice a' l c' ∧ l = k ∧ Below w.heap.size w wr ∧ OwnI wr w.heap.size (.slice a' l c') ((diffL z).take k)) (fun _ vi _ => z.length - (intOf vi).toNat)
  case atStart => exact ⟨0, 0, 0, _, by omega, rfl, rfl, rfl, below1 _ _, OwnI.emptyRow (heap_alloc_new w _) (Nat.le_refl _)⟩
  case round =>
    obtain ⟨k, l, c', a', hk, rfl, rfl, rfl, hB, hO⟩ := hrel
    have hzr := hB.size
    have HZ := Lib.hid hzr
    by_cases hlt : l + 1 < z.length
    · rcases (HT.out.below hB (Nat.le_refl _)) with h | ⟨b', o', rfl, _, hb', hI'⟩
      · rw [h] at hlt; simp at hlt
      have c1 := hI' (l + 1) hlt
      have c2 := hI' l (by omega)
      have b1 := HBd.out z[l + 1] (List.getElem_mem _)
      have b2 := HBd.out (z[l]'(by omega)) (List.getElem_mem _)
      have HS := Lib.hid (diffL_take hlt)
      obtain ⟨x, hx⟩ : ∃ x, z[l + 1] = x := ⟨_, rfl⟩
      obtain ⟨y, hy⟩ : ∃ y, z[l]'(by omega) = y := ⟨_, rfl⟩
      rw [hx] at c1 b1
      rw [hy] at c2 b2
      rw [hx, hy] at HS
      have HB := Lib.hid hB
      have HO := Lib.hid hO
      clear hx hy hI' hB hO
      have e1 : (l : Int) + 1 < (z.length : Int) := by omega
      have e2 : (0 : Int) ≤ (l : Int) := by omega
      have e3 : (l : Int) < (z.length : Int) := by omega
      have e4 : (0 : Int) ≤ (l : Int) + 1 := by omega
      have k1 : IntKind.i64.wrap (x - y) = x - y := IntWalk.i64_in _ (by omega)
      have k2 : IntKind.i64.wrap (l : Int) = (l : Int) := IntWalk.i64_in _ (by omega)
      go_wp2
      go_region_law ((refine step_one (W := wr.drew) rfl (.tmp 16) (.tmp 27) rfl w.heap.size (.slice a' l c') l ((diffL z).take l) (x - y) rfl HO.out (by rw [List.length_take, HLen.out]; omega) rfl (by omega) HZ.out ?_; intro gg cg w9 hO9 hG9))
      all_goals
        have HB9 := Lib.hid (HB.out.trans ((((Below.refl w.heap.size wr).drew).alloc HZ.out (.cells #[.int .i64 (x - y)] 2)).trans (below_of_grown hG9 (fun g h => (HO.out.lt g h).1) (by have := HZ.out; simp; omega))))
        have HO9 := Lib.hid hO9
        clear hO9 hG9 k1 k2
        go_wp2
        go_roundw
        case rel => exact ⟨l + 1, l + 1, cg, some ⟨gg, 0, none⟩, by omega, by go_num, rfl, rfl, HB9.out, by rw [HS.out]; exact HO9.out⟩
        case measure => simp [intOf]; omega
    · have hkz : l = z.length - 1 := by omega
      have HK := Lib.hid hkz
      have HB := Lib.hid hB
      have HO := Lib.hid hO
      clear hkz hB hO
      go_wp2
      go_ret2
      have hO := HO.out
      rw [List.take_of_length_le (by rw [HLen.out, HK.out]; exact Nat.le_refl _)] at hO
      have hlr : l = (diffL z).length := by rw [HLen.out]; exact HK.out
      subst hlr
      exact ⟨a', c', rfl, HB.out, hO.at_.2⟩
end

section
variable (a : Option Addr) (z : List Int) (hl : z.length ≤ 1048576) (w : World) (hr : IRow 0 w.heap.size w a z)
include hl hr
set_option maxRecDepth 100000 in
set_option maxHeartbeats 2000000 in
theorem iDiff_2 (h : lstB 1 z = true) : Calls Try.prog 30 #[.slice a z.length z.length] w (NumsPost (diffL z) 0 w) := by
  have H := Lib.hid (isNumberList_c 0 w.heap.size a z.length z hl w hr)
  have HT := Lib.hid hr
  unfold lstB at h
  simp only [Bool.and_eq_true, decide_eq_true_eq] at h
  rw [h.1] at H
  have hz1 := h.2
  obtain ⟨h12, hbd⟩ := listB_true h.1
  have HBd := Lib.hid hbd
  have HLen := Lib.hid (diffL_length z)
  clear h hbd
  have h1z : 1 ≤ z.length := by omega
  rcases hr with h | ⟨b', o', rfl, hlo, hb', hI'⟩
  · rw [h] at h1z; simp at h1z
  have HI := Lib.hid hI'
  clear hI' hlo
  by_cases he : z.length = 1
  · have HE := Lib.hid (show diffL z = [] from List.eq_nil_of_length_eq_zero (by rw [diffL_length]; omega))
    rw [he] at H ⊢
    clear he h1z hz1 HBd h12 hl
    go_enter Try.func30, Try.ntmps30
    go_wp2_with (go_at_call 42; refine H.out.mono ?_; rintro e w' ⟨rfl, rfl⟩)
    go_loop [4, 18] (fun vd vi => vd = .slice none 0 0 ∧ vi = .int .i64 0) (fun _ _ => 0)
    case atStart => exact ⟨rfl, rfl⟩
    case round =>
      obtain ⟨rfl, rfl⟩ := hrel
      go_wp2
      go_ret2
      rw [HE.out]
      exact ⟨none, 0, rfl, Below.refl _ _, .inl rfl⟩
  have h2z : 1 < z.length := by omega
  have h2i : (1 : Int) < (z.length : Int) := by omega
  have h3 : ¬ (z.length : Int) = 0 := by omega
  have h3b : ((z.length : Int) == 0) = false := by simpa using h3
  obtain ⟨m, hm⟩ : ∃ m, z.length - 1 = m := ⟨_, rfl⟩
  have hm2 : z.length = m + 1 := by omega
  have HM := Lib.hid hm2
  have hm11 : m ≤ 11 := by omega
  clear he hm2
  go_enter Try.func30, Try.ntmps30
  go_wp2_with (go_at_call 42; refine H.out.mono ?_; rintro e w' ⟨rfl, rfl⟩)
  clear hm
  go_loopw [4, 18] (fun vs vi wr => ∃ (k l c' : Nat) (a' : Option Addr), k ≤ m ∧ vi = .int .i64 k ∧ vs = .slice a' l c' ∧ l = k ∧ Below w.heap.size w wr ∧ OwnI wr w.heap.size (.slice a' l c') ((diffL z).take k)) (fun _ vi _ => m - (intOf vi).toNat)
  case atStart => exact ⟨0, 0, 0, none, Nat.zero_le _, rfl, rfl, rfl, Below.refl _ _, OwnI.nil _ _⟩
  case round =>
    obtain ⟨k, l, c', a', hk, rfl, rfl, rfl, hB, hO⟩ := hrel
    have hzr := hB.size
    have HB := Lib.hid hB
    have HO := Lib.hid hO
    clear hB hO
    by_cases hlt : l < m
    · have hl1 : l + 1 < z.length := by have := HM.out; omega
      have hl0 : l < z.length := by omega
      have hI := HI.out.below HB.out hb'
      have c1 := hI (l + 1) hl1
      have c2 := hI l hl0
      rw [show o' + (l + 1) = o' + 1 + l by omega] at c1
      have b1 := HBd.out z[l + 1] (List.getElem_mem _)
      have b2 := HBd.out z[l] (List.getElem_mem _)
      have HS := Lib.hid (diffL_take hl1)
      obtain ⟨x, hx⟩ : ∃ x, z[l + 1] = x := ⟨_, rfl⟩
      obtain ⟨y, hy⟩ : ∃ y, z[l] = y := ⟨_, rfl⟩
      rw [hx] at c1 b1
      rw [hy] at c2 b2
      rw [hx, hy] at HS
      clear hx hy hI
      have e1 : (l : Int) < (z.length : Int) := by omega
      have e2 : (0 : Int) ≤ (l : Int) := by omega
      have e3 : (l : Int) < (m : Int) := by omega
      have k1 : IntKind.i64.wrap (x - y) = x - y := IntWalk.i64_in _ (by omega)
      go_wp2_with (at_builtin; refine wpList_append_ints rfl _ _ rfl w.heap.size (.slice a' l c') l ((diffL z).take l) [x - y] rfl (by rw [List.length_take, HLen.out, HM.out]; omega) (HO.out.alloc _) _ 1 1 rfl rfl (.inr ⟨_, 0, rfl, ints_one _ _⟩) (by omega) (by simp; omega) ?_)
      intro a4 c4 w4 hO4 hG4 _
      have HB4 := Lib.hid (HB.out.trans (((below1 _ _).mono (by exact hzr)).trans (own_grownI (by exact OwnI.alloc (by exact HO.out) _) hG4 (by simp; omega))))
      have HO4 := Lib.hid hO4
      clear hO4 hG4 k1
      go_wp2
      go_roundw
      case rel => exact ⟨l + 1, l + 1, c4, a4, by omega, by go_num, rfl, rfl, HB4.out, by rw [HS.out]; exact HO4.out⟩
      case measure => simp [intOf]; omega
    · have hkz : l = m := by omega
      subst hkz
      go_wp2
      go_ret2
      have hO := HO.out
      have hlr : l = (diffL z).length := by rw [HLen.out, HM.out]; rfl
      rw [List.take_of_length_le (by rw [← hlr]; exact Nat.le_refl _)] at hO
      subst hlr
      exact ⟨a', c', rfl, HB.out, hO.at_.2⟩
end

section
variable (a : Option Addr) (cap : Nat) (z : List Int) (hl : z.length ≤ 1048576) (w : World) (hr : IRow 0 w.heap.size w a z)
include hl hr
theorem sSums_1 (h : listB z = false) : Calls Try.prog 31 #[.slice a z.length cap] w (NumsPost [] 2 w) := by
  have H := Lib.hid (l10List_c 0 w.heap.size a cap z hl w hr 0 (.inl rfl))
  have HB := Lib.hid h
  clear hr h
  go_enter Try.func31, Try.ntmps31
  go_wp2_with (go_at_call 40; refine H.out.mono ?_; rw [lstB_0, HB.out]; rintro e w' ⟨rfl, rfl⟩)
  go_ret2
  exact ⟨none, 0, rfl, Below.refl _ _, .inl rfl⟩
theorem iSums_1 (h : listB z = false) : Calls Try.prog 32 #[.slice a z.length cap] w (NumsPost [] 2 w) := by
  have H := Lib.hid (isNumberList_c 0 w.heap.size a cap z hl w hr)
  have HB := Lib.hid h
  clear hr h
  go_enter Try.func32, Try.ntmps32
  go_wp2_with (go_at_call 42; refine H.out.mono ?_; rw [HB.out]; rintro e w' ⟨rfl, rfl⟩)
  go_ret2
  exact ⟨none, 0, rfl, Below.refl _ _, .inl rfl⟩

set_option maxRecDepth 100000 in
set_option maxHeartbeats 2000000 in
theorem sSums_2 (h : listB z = true) : Calls Try.prog 31 #[.slice a z.length cap] w (NumsPost (sumsL z) 0 w) := by
  have H := Lib.hid (l10List_c 0 w.heap.size a cap z hl w hr 0 (.inl rfl))
  have HB := Lib.hid h
  have HT := Lib.hid hr
  obtain ⟨h12, hbd⟩ := listB_true h
  have HBd := Lib.hid hbd
  have HLen := Lib.hid (sumsL_length z)
  have HTo := Lib.hid (sumTo_bd hbd)
  clear hr h hbd
  go_enter Try.func31, Try.ntmps31
  go_wp2_with (go_at_call 40; refine H.out.mono ?_; rw [lstB_0, HB.out]; rintro e w' ⟨rfl, rfl⟩)
  go_loopw [4, 5] (fun vs vi wr => ∃ (k l c' : Nat) (a' : Option Addr), k ≤ z.length ∧ vi = .int .i64 k ∧ vs = .slice a' l c' ∧ l = k + 1 ∧ Below w.heap.size w wr ∧ OwnI wr w.heap.size (.slice a' l c') ((sumsL z).take k ++ [sumTo z k])) (fun _ vi _ => z.length - (intOf vi).toNat)
  case atStart => exact ⟨0, 1, 1, _, Nat.zero_le _, rfl, rfl, rfl, below1 _ _, OwnI.one w 0⟩
  case round =>
    obtain ⟨k, l, c', a', hk, rfl, rfl, rfl, hB, hO⟩ := hrel
    have hzr := hB.size
    have HZ := Lib.hid hzr
    obtain ⟨g, rfl, hlk, hlc, hgb, hgs, c0⟩ := OwnI.last hO
    clear hlk
    have HTk := Lib.hid (show ((sumsL z).take k).length = k from by rw [List.length_take, sumsL_length]; omega)
    rw [HTk.out] at c0
    by_cases hlt : k < z.length
    · rcases (HT.out.below hB (Nat.le_refl _)) with h | ⟨b', o', rfl, _, hb', hI'⟩
      · rw [h] at hlt; simp at hlt
      have c1 := hI' k hlt
      have b1 := HBd.out z[k] (List.getElem_mem _)
      have b2 := HTo.out k
      have HS := Lib.hid (sumsL_take (z := z) (k := k) (by omega))
      have hst : sumTo z (k + 1) = sumTo z k + z[k] := by simp only [sumTo, getD_in hlt]
      have HSt := Lib.hid hst
      obtain ⟨x, hx⟩ : ∃ x, z[k] = x := ⟨_, rfl⟩
      obtain ⟨y, hy⟩ : ∃ y, sumTo z k = y := ⟨_, rfl⟩
      rw [hx] at c1 b1 HSt
      rw [hy] at c0 b2 HS HSt hO
      have HB := Lib.hid hB
      have HO := Lib.hid hO
      clear hx hy hI' hB hO hst
      have e2 : (0 : Int) ≤ (k : Int) := by omega
      have e3 : (k : Int) < (z.length : Int) := by omega
      have e4 : (k : Int) < (k : Int) + 1 := by omega
      have k1 : IntKind.i64.wrap (y + x) = y + x := IntWalk.i64_in _ (by omega)
      go_wp2
      go_region_law ((refine step_one (W := wr.drew) rfl (.tmp 16) (.tmp 26) rfl w.heap.size (.slice (some ⟨g, 0, none⟩) (k + 1) c') (k + 1) ((sumsL z).take k ++ [y]) (y + x) rfl HO.out (by rw [List.length_append, HTk.out]; rfl) rfl (by omega) HZ.out ?_; intro gg cg w9 hO9 hG9))
      all_goals
        have HB9 := Lib.hid (HB.out.trans ((((Below.refl w.heap.size wr).drew).alloc HZ.out (.cells #[.int .i64 (y + x)] 2)).trans (below_of_grown hG9 (fun g h => (HO.out.lt g h).1) (by have := HZ.out; simp; omega))))
        have HO9 := Lib.hid hO9
        clear hO9 hG9 k1
        go_wp2
        go_roundw
        case rel => exact ⟨k + 1, k + 1 + 1, cg, some ⟨gg, 0, none⟩, by omega, by go_num, rfl, rfl, HB9.out, by rw [HS.out, HSt.out]; exact HO9.out⟩
        case measure => simp [intOf]; omega
    · have hkz : k = z.length := by omega
      subst hkz
      have HB := Lib.hid hB
      have HO := Lib.hid hO
      clear hB hO c0
      go_wp2
      go_ret2
      have hO := HO.out
      rw [← sumsL_take (z := z) (by omega), List.take_of_length_le (by rw [HLen.out]; exact Nat.le_refl _)] at hO
      have hlr := HLen.out
      rw [← hlr] at hO
      exact ⟨some ⟨g, 0, none⟩, c', by rw [hlr]; rfl, HB.out, hO.at_.2⟩

set_option maxRecDepth 100000 in
set_option maxHeartbeats 2000000 in
theorem iSums_2 (h : listB z = true) : Calls Try.prog 32 #[.slice a z.length cap] w (NumsPost (sumsL z) 0 w) := by
  have H := Lib.hid (isNumberList_c 0 w.heap.size a cap z hl w hr)
  have HB := Lib.hid h
  have HT := Lib.hid hr
  obtain ⟨h12, hbd⟩ := listB_true h
  have HBd := Lib.hid hbd
  have HLen := Lib.hid (sumsL_length z)
  have HTo := Lib.hid (sumTo_bd hbd)
  clear hr h hbd
  go_enter Try.func32, Try.ntmps32
  go_wp2_with (go_at_call 42; refine H.out.mono ?_; rw [HB.out]; rintro e w' ⟨rfl, rfl⟩)
  go_loopw [4, 13] (fun vs vi wr => ∃ (k l c' : Nat) (a' : Option Addr), k ≤ z.length ∧ vi = .int .i64 k ∧ vs = .slice a' l c' ∧ l = k + 1 ∧ Below w.heap.size w wr ∧ OwnI wr w.heap.size (.slice a' l c') ((sumsL z).take k ++ [sumTo z k])) (fun _ vi _ => z.length - (intOf vi).toNat)
  case atStart => exact ⟨0, 1, 1, _, Nat.zero_le _, rfl, rfl, rfl, below1 _ _, OwnI.one w 0⟩
  case round =>
    obtain ⟨k, l, c', a', hk, rfl, rfl, rfl, hB, hO⟩ := hrel
    have hzr := hB.size
    obtain ⟨g, rfl, hlk, hlc, hgb, hgs, c0⟩ := OwnI.last hO
    clear hlk
    have HTk := Lib.hid (show ((sumsL z).take k).length = k from by rw [List.length_take, sumsL_length]; omega)
    rw [HTk.out] at c0
    by_cases hlt : k < z.length
    · rcases (HT.out.below hB (Nat.le_refl _)) with h | ⟨b', o', rfl, _, hb', hI'⟩
      · rw [h] at hlt; simp at hlt
      have c1 := hI' k hlt
      have b1 := HBd.out z[k] (List.getElem_mem _)
      have b2 := HTo.out k
      have HS := Lib.hid (sumsL_take (z := z) (k := k) (by omega))
      have hst : sumTo z (k + 1) = sumTo z k + z[k] := by simp only [sumTo, getD_in hlt]
      have HSt := Lib.hid hst
      obtain ⟨x, hx⟩ : ∃ x, z[k] = x := ⟨_, rfl⟩
      obtain ⟨y, hy⟩ : ∃ y, sumTo z k = y := ⟨_, rfl⟩
      rw [hx] at c1 b1 HSt
      rw [hy] at c0 b2 HS HSt hO
      have HB := Lib.hid hB
      have HO := Lib.hid hO
      clear hx hy hI' hB hO hst
      have e2 : (0 : Int) ≤ (k : Int) := by omega
      have e3 : (k : Int) < (z.length : Int) := by omega
      have e4 : (k : Int) < (k : Int) + 1 := by omega
      have k1 : IntKind.i64.wrap (y + x) = y + x := IntWalk.i64_in _ (by omega)
      go_wp2_with (at_builtin; refine wpList_append_ints rfl _ _ rfl w.heap.size (.slice (some ⟨g, 0, none⟩) (k + 1) c') (k + 1) ((sumsL z).take k ++ [y]) [y + x] rfl (by rw [List.length_append, HTk.out]; rfl) (HO.out.alloc _) _ 1 1 rfl rfl (.inr ⟨_, 0, rfl, ints_one _ _⟩) (by omega) (by simp; omega) ?_)
      intro a4 c4 w4 hO4 hG4 _
      have HB4 := Lib.hid (HB.out.trans (((below1 _ _).mono (by exact hzr)).trans (own_grownI (by exact OwnI.alloc (by exact HO.out) _) hG4 (by simp; omega))))
      have HO4 := Lib.hid hO4
      clear hO4 hG4 k1
      go_wp2
      go_roundw
      case rel => exact ⟨k + 1, k + 1 + 1, c4, a4, by omega, by go_num, rfl, rfl, HB4.out, by rw [HS.out, HSt.out, List.append_assoc]; exact HO4.out⟩
      case measure => simp [intOf]; omega
    · have hkz : k = z.length := by omega
      subst hkz
      have HB := Lib.hid hB
      have HO := Lib.hid hO
      clear hB hO c0
      go_wp2
      go_ret2
      have hO := HO.out
      rw [← sumsL_take (z := z) (by omega), List.take_of_length_le (by rw [HLen.out]; exact Nat.le_refl _)] at hO
      have hlr := HLen.out
      rw [← hlr] at hO
      exact ⟨some ⟨g, 0, none⟩, c', by rw [hlr]; rfl, HB.out, hO.at_.2⟩
end
end Go.Proofs.Ytncodnjnndjjaaa
