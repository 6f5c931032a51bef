/-
  Entries of zeros are left out: the model's l04Rest, the program's isRest, slices.IndexFunc and slices.DeleteFunc at a row of moves. Contracts of WithoutRests, of the program and of the model.
-/
import Derived.Test.YtncodnjnndjjaaaPathRes
import Derived.Test.YtncodnjnndjjaaaDblArea
import Derived.ChangeAlike
import Derived.Handy
namespace Go.Proofs.Ytncodnjnndjjaaa
open Go.RowKit

def restB (z : List Int) : Bool := z.all fun x => decide (x = 0)
def restM (v : Mv) : Bool := decide (v.a = 0) && (decide (v.b = 0) && decide (v.c = 0))
/-- the rows that are not all zeros -/
def dropR (ps : List (List Int)) : List (List Int) := ps.filter fun z => !restB z
def dropM (ms : List Mv) : List Mv := ms.filter fun v => !restM v
theorem restM_of {z : List Int} (h : z.length ≤ 3) : restM (mvOf z) = restB z := by
  match z, h with
  | [], _ => rfl
  | [x], _ => simp [restM, restB, mvOf]
  | [x, y], _ => simp [restM, restB, mvOf]
  | [x, y, u], _ => simp [restM, restB, mvOf]
theorem dropM_of {D : Nat} (hD : D ≤ 3) : ∀ {ps : List (List Int)}, (∀ p ∈ ps, p.length = D) → (dropM (ps.map mvOf)).map (stepOf D) = dropR ps
  | [], _ => rfl
  | p :: ps, h => by
    have ih := dropM_of hD (ps := ps) (fun q hq => h q (by simp [hq]))
    have hp := h p (by simp)
    unfold dropM dropR at ih ⊢
    rw [List.map_cons, List.filter_cons, List.filter_cons, restM_of (by omega)]
    split
    · rw [List.map_cons, ih, stepOf_of hD hp]
    · exact ih
theorem dropM_len (ms : List Mv) (j : Nat) : (dropM (ms.take j)).length ≤ j := by
  unfold dropM
  have := List.length_filter_le (fun v => !restM v) (ms.take j)
  rw [List.length_take] at this
  omega
theorem dropM_all {ms : List Mv} (h : ∀ i (hi : i < ms.length), restM ms[i] = false) : dropM ms = ms := by
  unfold dropM
  rw [List.filter_eq_self]
  intro v hv
  obtain ⟨i, hi, rfl⟩ := List.mem_iff_getElem.1 hv
  rw [h i hi]; rfl
theorem dropM_yes {ms : List Mv} {j : Nat} (hj : j < ms.length) (h : restM ms[j] = false) : dropM (ms.take (j + 1)) = dropM (ms.take j) ++ [ms[j]] := by
  unfold dropM
  rw [List.take_succ_eq_append_getElem hj, List.filter_append]
  simp [h]
theorem dropM_no {ms : List Mv} {j : Nat} (hj : j < ms.length) (h : restM ms[j] = true) : dropM (ms.take (j + 1)) = dropM (ms.take j) := by
  unfold dropM
  rw [List.take_succ_eq_append_getElem hj, List.filter_append]
  simp [h]
theorem dropR_yes {ps : List (List Int)} {j : Nat} (hj : j < ps.length) (h : restB ps[j] = false) : dropR (ps.take (j + 1)) = dropR (ps.take j) ++ [ps[j]] := by
  unfold dropR
  rw [List.take_succ_eq_append_getElem hj, List.filter_append]
  simp [h]
theorem dropR_no {ps : List (List Int)} {j : Nat} (hj : j < ps.length) (h : restB ps[j] = true) : dropR (ps.take (j + 1)) = dropR (ps.take j) := by
  unfold dropR
  rw [List.take_succ_eq_append_getElem hj, List.filter_append]
  simp [h]
theorem dropR_len (ps : List (List Int)) (j : Nat) : (dropR (ps.take j)).length ≤ j := by
  unfold dropR
  have := List.length_filter_le (fun z => !restB z) (ps.take j)
  rw [List.length_take] at this
  omega

theorem retRest {a b : Bool} (h : a = b) : Ending.returned (.bool a) = .returned (.bool b) := by rw [h]
theorem rest_at {z : List Int} {i : Nat} (hi : i < z.length) (h : z[i] ≠ 0) : restB z = false := by
  cases hp : restB z with
  | false => rfl
  | true =>
    have := List.all_eq_true.1 hp _ (List.getElem_mem hi)
    simp at this
    exact absurd this h
theorem l04Rest_c (lo hi : Nat) (a : Option Addr) (cap : Nat) (z : List Int) (hl : z.length ≤ 1048576) (w : World) (hr : IRow lo hi w a z) :
    Calls Try.prog 51 #[.slice a z.length cap] w fun e w' => e = .returned (.bool (restB z)) ∧ w = w' := by
  have HT := Lib.hid hr
  clear hr
  go_enter Try.func51, Try.ntmps51
  go_wp2
  go_loop [3] (fun vi => ∃ k : Nat, k ≤ z.length ∧ vi = .int .i64 k ∧ ∀ i (h : i < z.length), i < k → z[i] = 0) (fun vi => z.length - (intOf vi).toNat)
  case atStart => exact ⟨0, Nat.zero_le _, rfl, fun i _ h => absurd h (Nat.not_lt_zero _)⟩
  case round =>
    obtain ⟨k, hk, rfl, hg⟩ := hrel
    have HG := Lib.hid hg
    clear hg
    by_cases hlt : k < z.length
    · rcases HT.out with h | ⟨b', o', rfl, _, _, hI'⟩
      · rw [h] at hlt; simp at hlt
      have c1 := hI' k hlt
      have HN := Lib.hid (fun h => rest_at hlt h)
      have HY := Lib.hid (fun (h : z[k] = 0) i (hi : i < z.length) (hij : i < k + 1) => show z[i] = 0 from by
        by_cases e : i < k
        · exact HG.out i hi e
        · obtain rfl : i = k := by omega
          exact h)
      obtain ⟨x, hx⟩ : ∃ x, z[k] = x := ⟨_, rfl⟩
      rw [hx] at c1 HN HY
      clear hx hI'
      have e0 : (0 : Int) ≤ (k : Int) := by omega
      have e1 : (k : Int) < (z.length : Int) := by omega
      by_cases h0 : x = 0
      · subst h0
        have HR := Lib.hid (HY.out rfl)
        go_wp2
        go_round
        case rel => exact ⟨k + 1, by omega, by go_num, HR.out⟩
        case measure => simp [intOf]; omega
      · have HR := Lib.hid (HN.out h0)
        go_wp2
        go_ret
        exact ⟨retRest HR.out.symm, rfl⟩
    · have HR := Lib.hid (show restB z = true from List.all_eq_true.2 fun x hx => by
        obtain ⟨i, hi, rfl⟩ := List.mem_iff_getElem.1 hx
        simp [HG.out i hi (by omega)])
      go_wp2
      go_ret
      exact ⟨retRest HR.out.symm, rfl⟩

section
variable (lo hi : Nat) (L : Int) (a : Option Addr) (cap : Nat) (ps : List (List Int)) (hl : ps.length ≤ 1048576) (hs : flat ps ≤ 1048576) (w : World) (hr : PRow lo hi w a ps)
include hl hs hr
theorem sRests_1 (h : pathB L ps = false) : Calls Try.prog 27 #[.int .i64 L, .slice a ps.length cap] w (PathPost [] 1 w) := by
  have H := Lib.hid (l04Is_c lo hi L a cap ps hl hs w hr)
  have HB := Lib.hid h
  clear hr h
  go_enter Try.func27, Try.ntmps27
  go_wp2_with (go_at_call 50; refine H.out.mono ?_; rw [HB.out]; rintro e w' ⟨rfl, rfl⟩)
  go_ret2
  exact ⟨none, 0, rfl, Below.refl _ _, .inl rfl⟩
theorem iRests_1 (h : pathB L ps = false) : Calls Try.prog 28 #[.int .i64 L, .slice a ps.length cap] w (PathPost [] 1 w) := by
  have H := Lib.hid (iIsPath_c lo hi L a cap ps hl hs w hr)
  have HB := Lib.hid h
  clear hr h
  go_enter Try.func28, Try.ntmps28
  go_wp2_with (go_at_call 53; refine H.out.mono ?_; rw [HB.out]; rintro e w' ⟨rfl, rfl⟩)
  go_ret2
  exact ⟨none, 0, rfl, Below.refl _ _, .inl rfl⟩
end

set_option maxRecDepth 100000 in
set_option maxHeartbeats 4000000 in
theorem sRests_2 (lo hi : Nat) (D : Nat) (a : Option Addr) (cap : Nat) (ps : List (List Int)) (hs : flat ps ≤ 1048576) (w : World) (hr : PRow lo hi w a ps) (hh : hi ≤ w.heap.size) (h : pathB D ps = true) (hP : SmallP D ps) :
    Calls Try.prog 27 #[.int .i64 D, .slice a ps.length cap] w (PathPost (dropR ps) 0 w) := by
  have hl12 := hP.1
  have hD3 := hP.2.2.1
  have H := Lib.hid (l04Is_c lo hi D a cap ps (by omega) hs w hr)
  have HT := Lib.hid hr
  have HB := Lib.hid h
  have HP := Lib.hid hP
  have HLe := Lib.hid (dropR_len ps)
  clear hr h hP
  go_enter Try.func27, Try.ntmps27
  go_wp2_with (go_at_call 50; refine H.out.mono ?_; rw [HB.out]; rintro e w' ⟨rfl, rfl⟩)
  go_loopw [6, 7] (fun vs vi wr => ∃ (k : Nat) (b : Option Addr) (l c : Nat), k ≤ ps.length ∧ vi = .int .i64 k ∧ vs = .slice b l c ∧ l = (dropR (ps.take k)).length ∧ OwnP wr w.heap.size (.slice b l c) (dropR (ps.take k)) ∧ Below w.heap.size w wr) (fun _ vi _ => ps.length - (intOf vi).toNat)
  case atStart => exact ⟨0, some ⟨w.heap.size, 0, none⟩, 0, 0, Nat.zero_le _, rfl, rfl, rfl, OwnP.emptyRow (heap_alloc_new w _) (Nat.le_refl _), below1 _ _⟩
  case round =>
    obtain ⟨k, bv, lv, cv, hk, rfl, rfl, hlv, hO, hB⟩ := hrel
    have HO := Lib.hid hO
    have HL := Lib.hid hlv
    have HBk := Lib.hid hB
    have HSz := Lib.hid hB.size
    have hlv9 : lv ≤ 12 := by have := HLe.out k; omega
    clear hO hlv
    by_cases hlt : k < ps.length
    · obtain ⟨b, off, a', c, rfl, hbz, c0, hI⟩ := HT.out.getB hB hh hlt
      have HI := Lib.hid hI
      have hzl := HP.out.len hlt
      have HYes := Lib.hid (fun h => dropR_yes hlt h)
      have HNo := Lib.hid (fun h => dropR_no hlt h)
      obtain ⟨z, hez⟩ : ∃ z, ps[k] = z := ⟨_, rfl⟩
      simp only [hez] at c0 HI hzl HYes HNo
      subst hzl
      have e3 : (0 : Int) ≤ (k : Int) := by omega
      have e4 : (k : Int) < (ps.length : Int) := by omega
      clear hez hB hI
      cases hre : restB z with
      | true =>
        have HE := Lib.hid (HNo.out hre)
        have HRe := Lib.hid hre
        clear hre
        go_wp2_with fail
        refine (l04Rest_c lo hi a' c z (by omega) _ HI.out).mono ?_
        rw [HRe.out]
        rintro e w1 ⟨rfl, rfl⟩
        go_wp2
        go_roundw
        case rel => exact ⟨k + 1, bv, lv, cv, by omega, by go_num, rfl, by rw [HE.out]; exact HL.out, by rw [HE.out]; exact HO.out, HBk.out⟩
        case measure => simp [intOf]; omega
      | false =>
        have HE := Lib.hid (HYes.out hre)
        have HRe := Lib.hid hre
        clear hre
        go_wp2_with fail
        refine (l04Rest_c lo hi a' c z (by omega) _ HI.out).mono ?_
        rw [HRe.out]
        rintro e w1 ⟨rfl, rfl⟩
        go_wp2_with fail
        refine (ownI_c lo hi a' c z (by omega) _ HI.out (by have := HSz.out; omega)).mono ?_
        rintro e w1 ⟨a1, c1, rfl, hb1, hN1⟩
        have HB1 := Lib.hid hb1
        have HN1 := Lib.hid hN1
        clear hb1 hN1 c0
        go_wp2_with (at_builtin; refine wpList_append_path rfl _ _ rfl w.heap.size wr w1 bv lv cv (dropR (ps.take k)) z a1 z.length c1 rfl HL.out HO.out HB1.out HN1.out rfl rfl (by omega) HSz.out ?_)
        intro a9 q9 w9 hO9 hb9 _
        have HO9 := Lib.hid hO9
        have HBx := Lib.hid ((HBk.out.trans (HB1.out.mono HSz.out)).trans hb9)
        clear hO9 hb9
        go_wp2
        go_roundw
        case rel => exact ⟨k + 1, a9, lv + 1, q9, by omega, by go_num, rfl, by rw [HE.out, List.length_append, ← HL.out]; rfl, by rw [HE.out]; exact HO9.out, HBx.out⟩
        case measure => simp [intOf]; omega
    · obtain rfl : k = ps.length := by omega
      have HTe := Lib.hid (show ps.take ps.length = ps from List.take_length)
      go_wp2
      go_ret2
      have hO := HO.out
      have hL := HL.out
      rw [HTe.out] at hO hL
      exact ⟨bv, cv, by rw [hL]; rfl, hB, hO.at_.2⟩

/-- a function that returns a bool and may make memory -/
def BoolP (b : Bool) (W : World) (e : Ending) (w' : World) : Prop := e = .returned (.bool b) ∧ Below W.heap.size W w'
theorem eql_move (x0 x1 x2 : Int) (w : World) : (binOp .eql 61 (.agg #[.int .i64 x0, .int .i64 x1, .int .i64 x2]) (.agg #[.int .i64 0, .int .i64 0, .int .i64 0])).run Try.prog w = .ok (.bool (restM ⟨x0, x1, x2⟩)) w := by
  rcases x0 with (_ | n0) | n0
  · rcases x1 with (_ | n1) | n1
    · rcases x2 with (_ | n2) | n2 <;> kernel_rfl
    · kernel_rfl
    · kernel_rfl
  · kernel_rfl
  · kernel_rfl
theorem isRest_c (x0 x1 x2 : Int) (w : World) : Calls Try.prog 57 #[.agg #[.int .i64 x0, .int .i64 x1, .int .i64 x2]] w (BoolP (restM ⟨x0, x1, x2⟩) w) := by
  have he := eql_move x0 x1 x2
  go_enter Try.func57, Try.ntmps57
  go_wp2
  go_ret
  exact ⟨rfl, below1 _ _⟩

/-- where the first entry of zeros is -/
def FirstR (ms : List Mv) (q : Int) : Prop := (q = -1 ∧ ∀ i (h : i < ms.length), restM ms[i] = false) ∨ ∃ (k : Nat) (hk : k < ms.length), q = k ∧ restM ms[k] = true ∧ ∀ i (h : i < ms.length), i < k → restM ms[i] = false
def IdxR (ms : List Mv) (W : World) (e : Ending) (w' : World) : Prop := ∃ q : Int, e = .returned (.int .i64 q) ∧ Below W.heap.size W w' ∧ FirstR ms q
set_option maxRecDepth 100000 in
set_option maxHeartbeats 4000000 in
theorem indexR_c (lo hi : Nat) (a : Option Addr) (cap : Nat) (ms : List Mv) (hl : ms.length ≤ 1000) (w : World) (hr : MRow lo hi w a ms) (hh : hi ≤ w.heap.size) :
    Calls Try.prog 78 #[.slice a ms.length cap, .func (.func 57) #[] #[]] w (IdxR ms w) := by
  have HT := Lib.hid hr
  clear hr
  go_enter Try.func78, Try.ntmps78
  go_wp2
  go_loopw [8] (fun vi wr => ∃ k : Nat, k ≤ ms.length ∧ vi = .int .i64 k ∧ Below w.heap.size w wr ∧ ∀ i (h : i < ms.length), i < k → restM ms[i] = false) (fun vi _ => ms.length - (intOf vi).toNat)
  case atStart => exact ⟨0, Nat.zero_le _, rfl, Below.refl _ _, fun i _ h => absurd h (Nat.not_lt_zero _)⟩
  case round =>
    obtain ⟨k, hk, rfl, hB, hg⟩ := hrel
    have HG := Lib.hid hg
    have HB := Lib.hid hB
    have hzr := hB.size
    clear hg
    by_cases hlt : k < ms.length
    · obtain ⟨b, off, rfl, d0, d1, d2⟩ := HT.out.get hB hh hlt
      have HF := Lib.hid (fun (h : restM ms[k] = true) => show FirstR ms (k : Int) from .inr ⟨k, hlt, rfl, h, fun i hi hik => HG.out i hi hik⟩)
      have HY := Lib.hid (fun (h : restM ms[k] = false) i (hi : i < ms.length) (hij : i < k + 1) => show restM ms[i] = false from by
        by_cases e : i < k
        · exact HG.out i hi e
        · obtain rfl : i = k := by omega
          exact h)
      obtain ⟨x0, x1, x2, hx⟩ : ∃ x0 x1 x2, ms[k] = ⟨x0, x1, x2⟩ := ⟨_, _, _, rfl⟩
      simp only [hx] at d0 d1 d2 HF HY
      have e3 : (0 : Int) ≤ (k : Int) := by omega
      have e4 : (k : Int) < (ms.length : Int) := by omega
      clear hx hB
      cases hre : restM ⟨x0, x1, x2⟩ with
      | true =>
        have HE := Lib.hid (HF.out hre)
        have HRe := Lib.hid hre
        clear hre
        go_wp2_with fail
        refine (isRest_c x0 x1 x2 _).mono ?_
        rw [HRe.out]
        rintro e w1 ⟨rfl, hb1⟩
        have HB1 := Lib.hid (HB.out.trans (hb1.mono hzr))
        clear hb1
        go_wp2
        go_ret
        exact ⟨(k : Int), rfl, HB1.out, HE.out⟩
      | false =>
        have HE := Lib.hid (HY.out hre)
        have HRe := Lib.hid hre
        clear hre
        go_wp2_with fail
        refine (isRest_c x0 x1 x2 _).mono ?_
        rw [HRe.out]
        rintro e w1 ⟨rfl, hb1⟩
        have HB1 := Lib.hid (HB.out.trans (hb1.mono hzr))
        clear hb1
        go_wp2
        go_roundw
        case rel => exact ⟨k + 1, by omega, by go_num, HB1.out, HE.out⟩
        case measure => simp [intOf]; omega
    · have HE := Lib.hid (show FirstR ms (-1) from .inl ⟨rfl, fun i hi => HG.out i hi (by omega)⟩)
      go_wp2
      go_ret
      exact ⟨-1, rfl, HB.out, HE.out⟩
end Go.Proofs.Ytncodnjnndjjaaa
