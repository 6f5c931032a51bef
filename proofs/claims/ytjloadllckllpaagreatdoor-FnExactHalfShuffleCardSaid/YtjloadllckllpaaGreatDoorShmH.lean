/-
  The number of a word in the half shuffle of two words; the words of the half shuffle are those of all words whose number is not 0, in order; the model's l03Half.
  The model's half shuffle of two series: the words of the half shuffles of their words are put in one by one.
-/
import Derived.Test.YtjloadllckllpaaGreatDoorShhW
import Derived.Test.YtjloadllckllpaaGreatDoorShuW
import Derived.Test.YtjloadllckllpaaGreatDoorShmS
import Derived.Deep.RegionHeld3
import Derived.Deep.Light
namespace Go.Proofs.YtjloadllckllpaaGreatDoor
open Go.RowKit
set_option linter.unusedVariables false

def hN (v w : List UInt8) : List UInt8 → Nat
  | [] => 0
  | c :: r => if v.head? = some c then shN v.tail w r else 0
theorem bl_front (p a b : List UInt8) (h : Op.bytesLess a b = true) : Op.bytesLess (p ++ a) (p ++ b) = true := by
  induction p with
  | nil => exact h
  | cons x p ih =>
    simp only [List.cons_append, Op.bytesLess, Bool.or_eq_true, decide_eq_true_eq, Bool.and_eq_true, beq_iff_eq]
    exact .inr ⟨by first | trivial | rfl, ih⟩
theorem less_front {p a b : ByteArray} (hab : a.size = b.size) (h : lessW a b) : lessW (p ++ a) (p ++ b) := by
  unfold lessW lessL at h ⊢
  have e1 : a.data.toList.length = b.data.toList.length := hab
  rw [if_pos e1] at h
  rw [app_list, app_list, if_pos (by rw [List.length_append, List.length_append, e1])]
  exact bl_front _ _ _ h
theorem shN_half {v w : List UInt8} {c : UInt8} {r : List UInt8} (hv : v.head? = some c) : shN v.tail w r ≤ shN v w (c :: r) := by
  rw [shN, if_pos hv]; omega
theorem hN_le : ∀ {v w s : List UInt8}, hN v w s ≤ shN v w s
  | v, w, [] => Nat.zero_le _
  | v, w, c :: r => by
    rw [hN]
    split
    · rename_i h; exact shN_half h
    · exact Nat.zero_le _
theorem half_list {v : ByteArray} (hv : 0 < v.size) : (v.extract 0 1).data.toList = [v[0]] ∧ v.data.toList.head? = some v[0] ∧ v.data.toList.tail = (v.extract 1 v.size).data.toList := by
  have h := cons_of hv
  refine ⟨by rw [first_list, h]; rfl, by rw [h]; rfl, by rw [behind_ext]; rfl⟩
theorem hN_front {v u y : ByteArray} (hv : 0 < v.size) : hN v.data.toList u.data.toList (v.extract 0 1 ++ y).data.toList = shN (v.extract 1 v.size).data.toList u.data.toList y.data.toList := by
  obtain ⟨h1, h2, h3⟩ := half_list hv
  rw [app_list, h1]
  show (if v.data.toList.head? = some v[0] then shN v.data.toList.tail u.data.toList y.data.toList else 0) = _
  rw [if_pos h2, h3]
/-- **the words of the half shuffle are the model's** -/
theorem half_words {D : Nat} (hD : D ≤ 3) {v u : ByteArray} (hv0 : 0 < v.size) (hv : wordB (D : Int) v.data.toList = true) (hu : wordB (D : Int) u.data.toList = true) :
    ((eachL (v.extract 1 v.size).data.toList u.data.toList ((v.extract 1 v.size).size + u.size) ByteArray.empty).map (·.1)).map (fun y => v.extract 0 1 ++ y) = ((wordsL D (v.size + u.size)).filter (shP v u)).filter fun s => decide (hN v.data.toList u.data.toList s.data.toList ≠ 0) := by
  obtain ⟨h1, h2, h3⟩ := half_list hv0
  have hw := wordB_first hv
  have hrs : (v.extract 1 v.size).size = v.size - 1 := rest_size
  refine asc_same lessW_irr lessW_trans ?_ (((wordsL_asc hD (v.size + u.size)).filter _).filter _) fun s => ?_
  · refine List.pairwise_map.2 ?_
    refine List.Pairwise.imp_of_mem ?_ (eachL_asc (v := (v.extract 1 v.size).data.toList) (w := u.data.toList) (m := (v.extract 1 v.size).size + u.size) (beg := ByteArray.empty))
    intro a b ha hb hab
    exact less_front (by rw [goesOn_size (eachL_mem.1 ha).1, goesOn_size (eachL_mem.1 hb).1]) hab
  · rw [List.mem_filter, List.mem_filter, List.mem_map]
    simp only [decide_eq_true_eq]
    constructor
    · rintro ⟨y, hy, rfl⟩
      obtain ⟨hg, hn⟩ := eachL_mem.1 hy
      have hN0 : hN v.data.toList u.data.toList (v.extract 0 1 ++ y).data.toList ≠ 0 := by rw [hN_front hv0]; exact hn
      have hS0 : shN v.data.toList u.data.toList (v.extract 0 1 ++ y).data.toList ≠ 0 := by have := hN_le (v := v.data.toList) (w := u.data.toList) (s := (v.extract 0 1 ++ y).data.toList); omega
      refine ⟨⟨wordsL_all hD _ _ ?_ ?_, ?_⟩, hN0⟩
      · rw [ByteArray.size_append, first_size hv0, goesOn_size hg, hrs]
        have : ByteArray.empty.size = 0 := rfl
        omega
      · unfold wordB at hv hu ⊢
        rw [List.all_eq_true] at hv hu ⊢
        intro c hc
        rcases shN_letters _ _ _ hS0 c hc with h | h
        · exact hv c h
        · exact hu c h
      · unfold shP
        exact decide_eq_true hS0
    · rintro ⟨⟨hm, _⟩, hn⟩
      have hsz := wordsL_size D _ s hm
      have hs0 : 0 < s.size := by omega
      have hc := cons_of hs0
      rw [hc] at hn
      have hn' : (if v.data.toList.head? = some s[0] then shN v.data.toList.tail u.data.toList (behind s).data.toList else 0) ≠ 0 := hn
      by_cases he : v.data.toList.head? = some s[0]
      · rw [if_pos he, h3] at hn'
        have hvs : v[0] = s[0] := by rw [h2] at he; injection he
        refine ⟨behind s, eachL_mem.2 ⟨⟨(behind s).data.toList, ?_, fun c hcm => ?_, rfl⟩, hn'⟩, ?_⟩
        · show (behind s).size = _
          rw [behind_size hs0, hrs]; omega
        · have h5 := wordB_up hD (wordsL_B hD _ s hm)
          unfold wordB at h5
          rw [List.all_eq_true] at h5
          exact letB_3 (h5 c (by rw [hc]; exact List.mem_cons_of_mem _ hcm))
        · apply data_eq
          rw [app_list, h1, hvs, hc]; rfl
      · rw [if_neg he] at hn'; exact absurd rfl hn'
/-- the words of a list that the half shuffle holds, each with its number -/
def kH (v u : ByteArray) (l : List ByteArray) : List (ByteArray × Nat) := (l.filter fun s => decide (hN v.data.toList u.data.toList s.data.toList ≠ 0)).map fun s => (s, hN v.data.toList u.data.toList s.data.toList)
theorem kH_is {D : Nat} (hD : D ≤ 3) {v u : ByteArray} (hv0 : 0 < v.size) (hv : wordB (D : Int) v.data.toList = true) (hu : wordB (D : Int) u.data.toList = true) :
    peL (v.extract 0 1) (eachL (v.extract 1 v.size).data.toList u.data.toList ((v.extract 1 v.size).size + u.size) ByteArray.empty) = kH v u ((wordsL D (v.size + u.size)).filter (shP v u)) := by
  unfold kH
  rw [← half_words hD hv0 hv hu, List.map_map, List.map_map]
  unfold peL
  refine List.map_congr_left fun x hx => ?_
  show (v.extract 0 1 ++ x.1, x.2) = (v.extract 0 1 ++ x.1, hN v.data.toList u.data.toList (v.extract 0 1 ++ x.1).data.toList)
  rw [hN_front hv0, (eachL_num hx).1]
theorem kH_yes {a b : Int} {v u : ByteArray} {l : List ByteArray} {j : Nat} (hj : j < l.length) (h0 : hN v.data.toList u.data.toList (l[j]).data.toList ≠ 0) (h : VF) : shK a b (kH v u (l.drop j)) h = (shStep a b h (l[j], hN v.data.toList u.data.toList (l[j]).data.toList)).bind (shK a b (kH v u (l.drop (j + 1)))) := by
  rw [List.drop_eq_getElem_cons hj]
  unfold kH
  rw [List.filter_cons_of_pos (by simpa using h0)]
  rfl
theorem kH_no {a b : Int} {v u : ByteArray} {l : List ByteArray} {j : Nat} (hj : j < l.length) (h0 : hN v.data.toList u.data.toList (l[j]).data.toList = 0) (h : VF) : shK a b (kH v u (l.drop j)) h = shK a b (kH v u (l.drop (j + 1))) h := by
  rw [List.drop_eq_getElem_cons hj]
  unfold kH
  rw [List.filter_cons_of_neg (by simp [h0])]
theorem kH_end {a b : Int} {v u : ByteArray} {l : List ByteArray} {j : Nat} (hj : l.length ≤ j) (h : VF) : shK a b (kH v u (l.drop j)) h = some h := by
  rw [List.drop_eq_nil_of_le hj]; rfl
theorem hN_b {v w u : List UInt8} (h : u.length ≤ 8) : (hN v w u : Int) ≤ 256 := by
  have h1 := hN_le (v := v) (w := w) (s := u)
  have h2 := shN_b (v := v) (w := w) h
  omega
set_option maxRecDepth 100000 in
set_option maxHeartbeats 1000000 in
theorem l03Half_c (v w u : ByteArray) (hv0 : 0 < v.size) (hu0 : 0 < u.size) (hv : v.size ≤ 8) (hw : w.size ≤ 8) (hu : u.size ≤ 8) (W : World) : Calls Tryz.prog 41 #[.string v, .string w, .string u] W fun e w' => e = .returned (.int .i64 (hN v.data.toList w.data.toList u.data.toList : Nat)) ∧ ∃ m, w' = W.drewN m := by
  have hbu : (behind u).size = u.size - 1 := behind_size hu0
  have hbv : (behind v).size = v.size - 1 := behind_size hv0
  have HI := Lib.hid (num_all (u.size - 1) (behind v) w (behind u) hbu (by omega) (by omega) (by omega))
  have hxv : v.extract 1 v.size = behind v := behind_ext v
  have hxu : u.extract 1 u.size = behind u := behind_ext u
  have h1v : (1 : Int) ≤ (v.size : Int) := by omega
  have h1u : (1 : Int) ≤ (u.size : Int) := by omega
  have huz : ((u.size : Int) == 0) = false := by rw [beq_eq_false_iff_ne]; omega
  have hcu := cons_of hu0
  obtain ⟨k1, k2, k3⟩ := half_list hv0
  by_cases hq : v[0] = u[0]
  · have hr : hN v.data.toList w.data.toList u.data.toList = shN (behind v).data.toList w.data.toList (behind u).data.toList := by
      rw [hcu]
      show (if v.data.toList.head? = some u[0] then shN v.data.toList.tail w.data.toList (behind u).data.toList else 0) = _
      rw [if_pos (by rw [k2, hq]), k3, hxv]
    rw [hr]
    have hiv : (v[0].toNat : Int) = (u[0].toNat : Int) := by rw [hq]
    clear hr hcu k1 k2 k3 hbu hbv
    go_enter Tryz.func41, Tryz.ntmps41
    go_wp2_with fail
    go_quiet (fail)
    go_wp2_with fail
    go_quiet ((go_at_call 40; (try simp only [hxv, hxu]); exact (quiet_of2 (HI.out _))))
    go_wp2_with fail
    go_ret
    refine ⟨rfl, ?_⟩
    repeat' (first | exact drew_0 _ | refine drew_ex ?_ _)
  · have hr : hN v.data.toList w.data.toList u.data.toList = 0 := by
      rw [hcu]
      show (if v.data.toList.head? = some u[0] then shN v.data.toList.tail w.data.toList (behind u).data.toList else 0) = _
      rw [if_neg (by rw [k2]; intro e; injection e with e; exact hq e)]
    rw [hr]
    have hiv : ¬ (v[0].toNat : Int) = (u[0].toNat : Int) := fun e => hq (UInt8.toNat_inj.1 (by omega))
    clear hr hcu k1 k2 k3 hbu hbv
    go_enter Tryz.func41, Tryz.ntmps41
    go_wp2_with fail
    go_quiet (fail)
    go_wp2_with fail
    go_ret
    refine ⟨rfl, ?_⟩
    repeat' (first | exact drew_0 _ | refine drew_ex ?_ _)
end Go.Proofs.YtjloadllckllpaaGreatDoor

namespace Go.Proofs.YtjloadllckllpaaGreatDoor
open Go.RowKit
set_option linter.unusedVariables false

/-- a row of half shuffles: a word without letters has none -/
def hfRow0 (D N : Nat) (s : Tm) (ys : List Tm) (f : VF) : Option VF := if s.s.size = 0 then some f else hfRow D N s ys f
def hfM (D N : Nat) (ys : List Tm) : List Tm → VF → Option VF
  | [], f => some f
  | s :: ss, f => (hfRow0 D N s ys f).bind (hfM D N ys ss)
theorem hfRow0_next {D N : Nat} {s : Tm} {ys : List Tm} {j : Nat} (h0 : ¬ s.s.size = 0) (hj : j < ys.length) (f : VF) : hfRow0 D N s (ys.drop j) f = (hfPair D N s ys[j] f).bind (hfRow0 D N s (ys.drop (j + 1))) := by
  unfold hfRow0
  rw [if_neg h0, hfRow_next hj]
  cases hfPair D N s ys[j] f with
  | none => rfl
  | some g => show hfRow D N s (ys.drop (j + 1)) g = if s.s.size = 0 then some g else _; rw [if_neg h0]
theorem hfRow0_none {D N : Nat} {s : Tm} {ys : List Tm} (h0 : s.s.size = 0) (j : Nat) (f : VF) : hfRow0 D N s (ys.drop j) f = hfRow0 D N s (ys.drop (j + 1)) f := by
  unfold hfRow0
  rw [if_pos h0, if_pos h0]
theorem hfRow0_end {D N : Nat} {s : Tm} {ys : List Tm} {j : Nat} (hj : ys.length ≤ j) (f : VF) : hfRow0 D N s (ys.drop j) f = some f := by
  unfold hfRow0
  split
  · rfl
  · exact hfRow_end hj f
theorem hfM_next {D N : Nat} {xs ys : List Tm} {i : Nat} (hi : i < xs.length) (f : VF) : hfM D N ys (xs.drop i) f = (hfRow0 D N xs[i] (ys.drop 0) f).bind (hfM D N ys (xs.drop (i + 1))) := by rw [List.drop_eq_getElem_cons hi]; rfl
theorem hfM_end {D N : Nat} {xs ys : List Tm} {i : Nat} (hi : xs.length ≤ i) (f : VF) : hfM D N ys (xs.drop i) f = some f := by rw [List.drop_eq_nil_of_le hi]; rfl
/-- the words without letters lie ahead of the others -/
theorem hfM_cut {D N : Nat} {ys : List Tm} : ∀ {xs : List Tm} {i : Nat}, (∀ k (h : k < xs.length), k < i → (xs[k]).s.size = 0) → (∀ k (h : k < xs.length), i ≤ k → 0 < (xs[k]).s.size) → ∀ f, hfM D N ys xs f = hfAll D N ys (xs.drop i) f
  | [], i, _, _, f => by rw [List.drop_nil]; rfl
  | s :: xs, 0, h1, h2, f => by
    have hs := h2 0 (by simp) (Nat.le_refl _)
    have ih := fun g => hfM_cut (D := D) (N := N) (ys := ys) (xs := xs) (i := 0) (fun k hk h => absurd h (Nat.not_lt_zero _)) (fun k hk _ => h2 (k + 1) (by simpa using hk) (Nat.zero_le _)) g
    show (hfRow0 D N s ys f).bind (hfM D N ys xs) = (hfRow D N s ys f).bind (hfAll D N ys xs)
    have e : hfRow0 D N s ys f = hfRow D N s ys f := if_neg (by have : 0 < s.s.size := hs; omega)
    rw [e]
    cases hfRow D N s ys f with
    | none => rfl
    | some g => exact ih g
  | s :: xs, i + 1, h1, h2, f => by
    have hs := h1 0 (by simp) (by omega)
    have e : hfRow0 D N s ys f = some f := if_pos hs
    show (hfRow0 D N s ys f).bind (hfM D N ys xs) = _
    rw [e]
    exact hfM_cut (D := D) (N := N) (ys := ys) (xs := xs) (i := i) (fun k hk h => h1 (k + 1) (by simpa using hk) (by omega)) (fun k hk h => h2 (k + 1) (by simpa using hk) (by omega)) f
set_option maxRecDepth 100000 in
set_option maxHeartbeats 8000000 in
theorem l03ShuffleH_c (D N : Nat) (hD : 1 ≤ D ∧ D ≤ 3) (hN : N ≤ 5) (a1 a2 : Option Addr) (c1 c2 : Nat) (xs ys : List Tm) (hx : serB (D : Int) (N : Int) xs = true) (hy : serB (D : Int) (N : Int) ys = true) (hlx : xs.length ≤ 1048576) (hly : ys.length ≤ 1048576) (w : World) (t1 : Row w a1 xs) (t2 : Row w a2 ys) :
    Calls Tryz.prog 19 #[.agg #[.int .i64 D, .int .i64 N, .slice a1 xs.length c1], .agg #[.int .i64 D, .int .i64 N, .slice a2 ys.length c2], .bool true] w (SumPost D N ((hfM D N ys xs (fun _ => none)).map fun h => termsOf h (allW D N)) w) := by
  have HFx := Lib.hid (ser_fr hx)
  have HFy := Lib.hid (ser_fr hy)
  have HWx := Lib.hid (ser_wordB hx)
  have HWy := Lib.hid (ser_wordB hy)
  obtain ⟨o, ho⟩ : ∃ o, hfM D N ys xs (fun _ => none) = o := ⟨_, rfl⟩
  rw [ho]
  have HO := Lib.hid (show hfM D N ys (xs.drop 0) (fun _ => none) = o from ho)
  have HT1 := Lib.hid t1
  have HT2 := Lib.hid t2
  have HAs := Lib.hid (allW_asc hD.2 N)
  have hfew := allW_few (D := D) hD.2 (n := N) hN
  generalize hws : allW D N = ws at *
  have HWs := Lib.hid hws
  clear hws
  clear hx hy ho t1 t2
  go_enter Tryz.func19, Tryz.ntmps19
  go_wp2_with fail
  refine (l01Empty_c D N _ rfl _).mono ?_
  rintro e w1 ⟨g1, rfl, hO, hb1⟩
  obtain ⟨w3, hw3⟩ : ∃ w3, (((w.alloc (.cells #[.int .i64 D, .int .i64 N, .slice a1 xs.length c1] 28)).alloc (.cells #[.int .i64 D, .int .i64 N, .slice a2 ys.length c2] 28)).alloc (.cells #[.int .i64 0, .int .i64 0, .slice none 0 0] 28)) = w3 := ⟨_, rfl⟩
  have hb1' : Below (w.heap.size + 1 + 1 + 1) w3 w1 := by rw [← hw3]; simpa using hb1
  have hz3 : w3.heap.size = w.heap.size + 1 + 1 + 1 := by rw [← hw3]; simp
  have hz1 : w.heap.size + 1 + 1 + 1 ≤ w1.heap.size := by have := hb1'.size; omega
  have HW3 := Lib.hid (show Below w.heap.size w w3 from by rw [← hw3]; exact below3 w _ _ _)
  have HC := Lib.hid (show ∀ wr, Below (w.heap.size + 1 + 1 + 1) w3 wr → wr.cell? ⟨w.heap.size, 0, none⟩ = some (.int .i64 D) ∧ wr.cell? ⟨w.heap.size, 1, none⟩ = some (.int .i64 N) ∧ wr.cell? ⟨w.heap.size, 2, none⟩ = some (.slice a1 xs.length c1) ∧ wr.cell? ⟨w.heap.size + 1, 2, none⟩ = some (.slice a2 ys.length c2) from fun wr hg =>
    ⟨(hg.cell (p := ⟨w.heap.size, 0, none⟩) (by go_light; show w.heap.size < _; omega)).trans (by subst hw3; go_simp), (hg.cell (p := ⟨w.heap.size, 1, none⟩) (by go_light; show w.heap.size < _; omega)).trans (by subst hw3; go_simp), (hg.cell (p := ⟨w.heap.size, 2, none⟩) (by go_light; show w.heap.size < _; omega)).trans (by subst hw3; go_simp), (hg.cell (p := ⟨w.heap.size + 1, 2, none⟩) (by go_light; show w.heap.size + 1 < _; omega)).trans (by subst hw3; go_simp)⟩)
  have HZ := Lib.hid (show ∀ wr, Below (w.heap.size + 1 + 1 + 1) w3 wr → Z3 wr (w.heap.size + 1 + 1) from fun wr hg => by
    have h : Z3 w3 (w.heap.size + 1 + 1) := by rw [← hw3]; have h := Z3.new ((w.alloc (.cells #[.int .i64 D, .int .i64 N, .slice a1 xs.length c1] 28)).alloc (.cells #[.int .i64 D, .int .i64 N, .slice a2 ys.length c2] 28)) 28; simpa using h
    exact h.below hg (by go_light; omega))
  have HX := Lib.hid (show ∀ wr, Below (w.heap.size + 1 + 1 + 1) w3 wr → ∀ i (h : i < xs.length), ∃ b off, a1 = some ⟨b, off, none⟩ ∧ b < w.heap.size ∧ wr.cell? ⟨b, off + i * 3, none⟩ = some (.string (xs[i]).s) ∧ wr.cell? ⟨b, off + i * 3 + 1, none⟩ = some (.int .i64 (xs[i]).n) ∧ wr.cell? ⟨b, off + i * 3 + 2, none⟩ = some (.int .i64 (xs[i]).d) from fun wr hg i hi => by
    rcases HT1.out with h | ⟨b, off, h1, h2, h3⟩
    · rw [h] at hi; simp at hi
    · obtain ⟨q0, q1, q2⟩ := h3.below (HW3.out.trans (hg.mono (by go_light; omega))) h2 i hi
      exact ⟨b, off, h1, h2, q0, q1, q2⟩)
  have HY := Lib.hid (show ∀ wr, Below (w.heap.size + 1 + 1 + 1) w3 wr → ∀ i (h : i < ys.length), ∃ b off, a2 = some ⟨b, off, none⟩ ∧ b < w.heap.size ∧ wr.cell? ⟨b, off + i * 3, none⟩ = some (.string (ys[i]).s) ∧ wr.cell? ⟨b, off + i * 3 + 1, none⟩ = some (.int .i64 (ys[i]).n) ∧ wr.cell? ⟨b, off + i * 3 + 2, none⟩ = some (.int .i64 (ys[i]).d) from fun wr hg i hi => by
    rcases HT2.out with h | ⟨b, off, h1, h2, h3⟩
    · rw [h] at hi; simp at hi
    · obtain ⟨q0, q1, q2⟩ := h3.below (HW3.out.trans (hg.mono (by go_light; omega))) h2 i hi
      exact ⟨b, off, h1, h2, q0, q1, q2⟩)
  have HS0 := Lib.hid (show OutS D N (w.heap.size + 1 + 1 + 1) w1.heap.size w3 (termsOf (fun _ => none) ws) (w1.alloc (.cells #[.int .i64 D, .int .i64 N, .slice (some ⟨g1, 0, none⟩) 0 0] 28)) from by
    have e : termsOf (fun _ => none) ws = [] := List.filterMap_eq_nil_iff.2 (fun s _ => rfl)
    rw [e]
    exact ⟨some ⟨g1, 0, none⟩, 0, Nat.le_refl _, .inl rfl, Blk.new w1 _ _, hb1'.alloc hz1 _⟩)
  clear hb1 hO hw3 hz3
  go_wp2_with fail
  go_loopw [9] (fun v9 wr => ∃ (i : Nat) (h : VF), i ≤ xs.length ∧ v9 = .int .i64 i ∧ hfM D N ys (xs.drop i) h = o ∧ GoodV ws h ∧ OutS D N (w.heap.size + 1 + 1 + 1) w1.heap.size w3 (termsOf h ws) wr) (fun v9 _ => xs.length - (intOf v9).toNat)
  case atStart => exact ⟨0, _, Nat.zero_le _, rfl, HO.out, GoodV.none _, HS0.out⟩
  case round =>
    obtain ⟨i, h, hi, rfl, hO, hG, hS⟩ := hrel
    obtain ⟨wo, rfl⟩ : ∃ wo : World, wo = wr := ⟨_, rfl⟩
    obtain ⟨x0, x1, x2, y2⟩ := HC.out wo hS.below
    have HO := Lib.hid hO
    have HG := Lib.hid hG
    have HS := Lib.hid hS
    have hzo := hS.lt
    clear hO hG hS
    by_cases hlt : i < xs.length
    · have hltI : (i : Int) < (xs.length : Int) := by go_light; omega
      have hi0 : (0 : Int) ≤ (i : Int) := by go_light; omega
      have hk1 : IntKind.i64.wrap ((i : Int) + 1) = (i : Int) + 1 := IntWalk.i64_in _ (by go_light; omega)
      have HFs := Lib.hid (isF_abs (HFx.out _ (List.getElem_mem hlt)))
      have HWs1 := Lib.hid (HWx.out _ (List.getElem_mem hlt))
      have HNx := Lib.hid (hfM_next (D := D) (N := N) (ys := ys) hlt h)
      have HXi := Lib.hid (fun (wr : World) (hg : Below (w.heap.size + 1 + 1 + 1) w3 wr) => HX.out wr hg i hlt)
      obtain ⟨bx, ox, hax, hbx, _, _, _⟩ := HXi.out wo HS.out.below
      subst hax
      have HXj := Lib.hid (fun (wr : World) (hg : Below (w.heap.size + 1 + 1 + 1) w3 wr) => (show wr.cell? ⟨bx, ox + i * 3, none⟩ = some (.string (xs[i]).s) ∧ wr.cell? ⟨bx, ox + i * 3 + 1, none⟩ = some (.int .i64 (xs[i]).n) ∧ wr.cell? ⟨bx, ox + i * 3 + 2, none⟩ = some (.int .i64 (xs[i]).d) from by
        obtain ⟨b', o', e, _, q0, q1, q2⟩ := HXi.out wr hg
        injection e with e
        injection e with e1 e2
        subst e1 e2
        exact ⟨q0, q1, q2⟩))
      clear HXi
      obtain ⟨s, hs⟩ : ∃ s, xs[i] = s := ⟨_, rfl⟩
      rw [hs] at HFs HWs1 HNx HXj
      obtain ⟨ss, x, d⟩ := s
      have HJ0 := Lib.hid (show (hfRow0 D N ⟨ss, x, d⟩ (ys.drop 0) h).bind (hfM D N ys (xs.drop (i + 1))) = o by rw [← HNx.out]; exact HO.out)
      clear hs
      go_wp2_with fail
      go_loopw [10] (fun v10 wq => ∃ (j : Nat) (h' : VF), j ≤ ys.length ∧ v10 = .int .i64 j ∧ (hfRow0 D N ⟨ss, x, d⟩ (ys.drop j) h').bind (hfM D N ys (xs.drop (i + 1))) = o ∧ GoodV ws h' ∧ OutS D N (w.heap.size + 1 + 1 + 1) w1.heap.size w3 (termsOf h' ws) wq) (fun v10 _ => ys.length - (intOf v10).toNat)
      case atStart => exact ⟨0, h, Nat.zero_le _, rfl, HJ0.out, HG.out, HS.out⟩
      case round =>
        clear x0 x1 x2 y2
        obtain ⟨j, h', hj, rfl, hO', hG', hS'⟩ := hrel
        obtain ⟨wq, rfl⟩ : ∃ wq : World, wq = wr := ⟨_, rfl⟩
        obtain ⟨x0, x1, x2, y2⟩ := HC.out wq hS'.below
        have HO := Lib.hid hO'
        have HG := Lib.hid hG'
        have HS := Lib.hid hS'
        have hzq := hS'.lt
        clear hO' hG' hS'
        by_cases hlj : j < ys.length
        · have hjI : (j : Int) < (ys.length : Int) := by go_light; omega
          have hj0 : (0 : Int) ≤ (j : Int) := by go_light; omega
          have hj1 : IntKind.i64.wrap ((j : Int) + 1) = (j : Int) + 1 := IntWalk.i64_in _ (by go_light; omega)
          have HFt := Lib.hid (isF_abs (HFy.out _ (List.getElem_mem hlj)))
          have HWt := Lib.hid (HWy.out _ (List.getElem_mem hlj))
          have HNr := Lib.hid (fun h0 => hfRow0_next (D := D) (N := N) (s := ⟨ss, x, d⟩) h0 hlj h')
          have HNe := Lib.hid (fun h0 => hfRow0_none (D := D) (N := N) (s := ⟨ss, x, d⟩) (ys := ys) h0 j h')
          obtain ⟨by_, oy, hay, hby, d0, d1, d2⟩ := HY.out wq HS.out.below j hlj
          subst hay
          obtain ⟨q0, q1, q2⟩ := HXj.out wq HS.out.below
          obtain ⟨t, ht⟩ : ∃ t, ys[j] = t := ⟨_, rfl⟩
          rw [ht] at d0 d1 d2 HFt HWt HNr
          obtain ⟨ts, y, e⟩ := t
          simp only at q0 q1 q2 d0 d1 d2
          have hss := HWs1.out.2
          have hts := HWt.out.2
          try simp only at hss hts
          obtain ⟨X, Y, ok, hX, hY, hok, HTf⟩ := timesF_c x d y e HFs.out HFt.out
          have HX' := Lib.hid hX
          have HY' := Lib.hid hY
          have HOk := Lib.hid hok
          have hwz : w.heap.size < wq.heap.size := by go_light; omega
          have hwz1 : w.heap.size + 1 < wq.heap.size := by go_light; omega
          have hbxz : bx < wq.heap.size := by go_light; omega
          have hbyz : by_ < wq.heap.size := by go_light; omega
          clear ht hX hY hok
          by_cases hss0 : ss.size = 0
          · have hse : ((ss.size : Int) == 0) = true := by go_light; rw [hss0]; rfl
            have HE := Lib.hid (show (hfRow0 D N ⟨ss, x, d⟩ (ys.drop (j + 1)) h').bind (hfM D N ys (xs.drop (i + 1))) = o by rw [← HO.out, HNe.out hss0])
            have HSd := Lib.hid (HS.out.next (Below.refl _ _).drew (by go_light; omega))
            go_wp2_with fail
            go_region
            all_goals
              go_wp2
              go_roundw
              case rel => go_light; exact ⟨j + 1, h', by omega, by go_num, HE.out, HG.out, HSd.out⟩
              case measure => go_light; simp [intOf]; omega
          have hpos : 0 < ss.size := by go_light; omega
          have hse : ((ss.size : Int) == 0) = false := by go_light; rw [beq_eq_false_iff_ne]; omega
          have HNr := Lib.hid (HNr.out hss0)
          clear hss0 HNe
          go_wp2_with fail
          go_region
          all_goals
            have hbq : Below wq.heap.size wq wq.drew := (Below.refl _ _).drew
            have HSd := Lib.hid (HS.out.next hbq (by go_light; omega))
            go_upto_region 10 with fail
            have hzd : wq.heap.size ≤ wq.drew.heap.size := Nat.le_refl _
            generalize wq.drew = wu at *
            have KU := Lib.hid (show ∀ w', Below wu.heap.size wu w' → (w'.cell? ⟨w.heap.size, 2, none⟩ = some (.slice (some ⟨bx, ox, none⟩) xs.length c1) ∧ w'.cell? ⟨w.heap.size + 1, 2, none⟩ = some (.slice (some ⟨by_, oy, none⟩) ys.length c2) ∧ w'.cell? ⟨bx, ox + i * 3 + 1, none⟩ = some (.int .i64 x) ∧ w'.cell? ⟨bx, ox + i * 3 + 2, none⟩ = some (.int .i64 d) ∧ w'.cell? ⟨by_, oy + j * 3 + 1, none⟩ = some (.int .i64 y) ∧ w'.cell? ⟨by_, oy + j * 3 + 2, none⟩ = some (.int .i64 e)) from fun w' hb => by
              have hb2 := hbq.trans (hb.mono (by go_light; omega))
              exact ⟨(hb2.cell (p := ⟨w.heap.size, 2, none⟩) hwz).trans x2, (hb2.cell (p := ⟨w.heap.size + 1, 2, none⟩) hwz1).trans y2, (hb2.cell (p := ⟨bx, _, none⟩) hbxz).trans q1, (hb2.cell (p := ⟨bx, _, none⟩) hbxz).trans q2, (hb2.cell (p := ⟨by_, _, none⟩) hbyz).trans d1, (hb2.cell (p := ⟨by_, _, none⟩) hbyz).trans d2⟩)
            clear hbq x0 x1 x2 y2 q0 q1 q2 d0 d1 d2
            go_cut [13, 14] (FrCutB wu X Y ok)
            case first =>
              go_region_held3 (fun w' => w'.cell? ⟨w.heap.size, 2, none⟩ = some (.slice (some ⟨bx, ox, none⟩) xs.length c1) ∧ w'.cell? ⟨w.heap.size + 1, 2, none⟩ = some (.slice (some ⟨by_, oy, none⟩) ys.length c2) ∧ w'.cell? ⟨bx, ox + i * 3 + 1, none⟩ = some (.int .i64 x) ∧ w'.cell? ⟨bx, ox + i * 3 + 2, none⟩ = some (.int .i64 d) ∧ w'.cell? ⟨by_, oy + j * 3 + 1, none⟩ = some (.int .i64 y) ∧ w'.cell? ⟨by_, oy + j * 3 + 2, none⟩ = some (.int .i64 e))
                ((refine KU.out _ ?_; repeat' (first | with_reducible assumption | with_reducible exact Below.refl _ _ | (with_reducible refine Below.drew ?_) | (with_reducible refine Below.setCell ?_ (by (try dsimp only); omega) _) | (with_reducible refine Below.alloc ?_ (by (try simp only [World.size_setCell]); (try simp only [World.size_drew]); (try simp only [World.size_alloc]); (try simp only [World.size_setCell]); (try simp only [World.size_alloc]); omega) _))))
                (first
                  | (go_at_call 38; (with_reducible refine (HTf.out _).mono ?_); rintro e w5 ⟨rfl, hb0⟩; have hbw5 : Below wu.heap.size wu w5 := below_step (by repeat' (first | with_reducible assumption | with_reducible exact Below.refl _ _ | (with_reducible refine Below.drew ?_) | (with_reducible refine Below.setCell ?_ (by (try dsimp only); omega) _) | (with_reducible refine Below.alloc ?_ (by (try simp only [World.size_setCell]); (try simp only [World.size_drew]); (try simp only [World.size_alloc]); (try simp only [World.size_setCell]); (try simp only [World.size_alloc]); omega) _))) hb0 (Nat.le_refl _); have hzw5 := hbw5.size; (try have B0 : Box2 w5 wu.heap.size 0 0 := Box2.next (by exact (Box2.new wu 0 0 _).drew) hb0); (try obtain ⟨Bz0, b00, b01, b02, b03⟩ := id B0))
                  | fail)
              all_goals (go_wp2_with fail; go_meet)
              all_goals (refine ⟨_, rfl, rfl, ?_, ?_, ?_⟩)
              all_goals (first | (with_reducible assumption) | (with_reducible exact Nat.le_refl _) | ((repeat' (first | with_reducible assumption | with_reducible exact Below.refl _ _ | (with_reducible refine Below.drew ?_) | (with_reducible refine Below.setCell ?_ (by (try dsimp only); omega) _) | (with_reducible refine Below.alloc ?_ (by (try simp only [World.size_setCell]); (try simp only [World.size_drew]); (try simp only [World.size_alloc]); (try simp only [World.size_setCell]); (try simp only [World.size_alloc]); omega) _))); done) | ((repeat' (first | with_reducible assumption | (with_reducible refine Box2.newAt ?_; first | with_reducible rfl | (simp only [World.size_alloc]; done)) | (with_reducible refine Box2.fill ?_) | (with_reducible refine Box2.alloc ?_ _) | fail)); done) | omega | fail)
            case rest =>
              obtain ⟨g7, rfl, rfl, hg7, hb7, hX7⟩ := hcut
              obtain ⟨w7, rfl⟩ : ∃ w7 : World, w7 = wc := ⟨_, rfl⟩
              have hz7 := hb7.size
              have HS7 := Lib.hid (HSd.out.next hb7 (by go_light; omega))
              have HX7 := Lib.hid hX7
              have hn7 := hX7.1
              obtain ⟨x0, x1, x2, y2⟩ := HC.out w7 HS7.out.below
              clear hb7 hX7
              cases ok with
              | false =>
                have HE := Lib.hid (show none = o by rw [← HO.out, HNr.out, hfPair_no (s := ⟨ss, x, d⟩) (t := ⟨ts, y, e⟩) HOk.out]; rfl)
                obtain ⟨ez, e0, e1, e2, r0, r1, r2⟩ := HZ.out w7 HS7.out.below
                have HB7 := Lib.hid (HW3.out.trans (HS7.out.below.mono (by go_light; omega)))
                repeat (first | go_values | go_skip | go_guarded | go_step | go_upon)
                rw [← HE.out]
                (try simp only [Exit.inBlock, Exit.then])
                refine bodyPost_ret (v := .tuple #[.agg #[.int .i64 0, .int .i64 0, .slice none 0 0], .bool false]) (by simp [results, Tryz.results19, go_sem, e0, e1, e2]) rfl ?_
                exact ⟨rfl, ((HB7.out.setCell (p := ⟨w.heap.size + 1 + 1, 0, none⟩) (by go_light; show _ ≤ w.heap.size + 1 + 1; omega) _).setCell (p := ⟨w.heap.size + 1 + 1, 1, none⟩) (by go_light; show _ ≤ w.heap.size + 1 + 1; omega) _).setCell (p := ⟨w.heap.size + 1 + 1, 2, none⟩) (by go_light; show _ ≤ w.heap.size + 1 + 1; omega) _⟩
              | true =>
                have hsum : IntKind.i64.wrap ((ss.size : Int) + (ts.size : Int)) = (ss.size : Int) + (ts.size : Int) := IntWalk.i64_in _ (by go_light; omega)
                have HFp := Lib.hid (isF_abs (show isF X Y = true by rw [← HX'.out, ← HY'.out]; exact fOk_isFp HOk.out))
                by_cases hfit : ss.size + ts.size ≤ N
                · have hfI : ¬ (N : Int) < (ss.size : Int) + (ts.size : Int) := by go_light; omega
                  have HWd := Lib.hid (fun W => l03Words_c D hD ss ts (by go_light; omega) W)
                  have HSw := Lib.hid (fun s (h : s ∈ (wordsL D (ss.size + ts.size)).filter (shP ss ts)) => (show s.size ≤ 8 ∧ 0 < s.size ∧ s ∈ ws from by
                    have h1 := (List.mem_filter.1 h).1
                    have h2 := (List.mem_filter.1 h).2
                    have h3 := wordsL_size D _ s h1
                    unfold shP at h2
                    rw [decide_eq_true_eq] at h2
                    exact ⟨by omega, by omega, by rw [← HWs.out]; exact word_in hfit h1⟩))
                  have HE0 := Lib.hid (show ((shK X Y (kH ss ts (((wordsL D (ss.size + ts.size)).filter (shP ss ts)).drop 0)) h').bind (hfRow0 D N ⟨ss, x, d⟩ (ys.drop (j + 1)))).bind (hfM D N ys (xs.drop (i + 1))) = o by
                    rw [← HO.out, HNr.out, hfPair_in (s := ⟨ss, x, d⟩) (t := ⟨ts, y, e⟩) HOk.out hfit, HX'.out, HY'.out, kH_is hD.2 hpos HWs1.out.1 HWt.out.1]
                    rfl)
                  have hfwl := wordsL_few (d := D) (n := ss.size + ts.size) hD.2 (by go_light; omega)
                  have hwl : ((wordsL D (ss.size + ts.size)).filter (shP ss ts)).length ≤ 243 := Nat.le_trans (List.length_filter_le _ _) hfwl
                  have HNum := Lib.hid (fun (s : ByteArray) (hs : s.size ≤ 8) W => num_all s.size ss ts s rfl hs (by go_light; omega) (by go_light; omega) W)
                  generalize (wordsL D (ss.size + ts.size)).filter (shP ss ts) = wl at HWd HSw HE0 hwl
                  go_wp2_with fail
                  refine (HWd.out _).mono ?_
                  rintro e w8 ⟨aw, cw, rfl, hb8, hN8⟩
                  have hz8 := hb8.size
                  have HS8 := Lib.hid (HS7.out.next hb8 (by go_light; omega))
                  have HX8 := Lib.hid (HX7.out.next hb8)
                  have HNw := Lib.hid hN8
                  clear hb8 hN8 x0 x1 x2 y2
                  go_wp2_with fail
                  go_loopw [16] (fun v16 wz => ∃ (k : Nat) (h'' : VF), k ≤ wl.length ∧ v16 = .int .i64 k ∧ ((shK X Y (kH ss ts (wl.drop k)) h'').bind (hfRow0 D N ⟨ss, x, d⟩ (ys.drop (j + 1)))).bind (hfM D N ys (xs.drop (i + 1))) = o ∧ GoodV ws h'' ∧ OutS D N (w.heap.size + 1 + 1 + 1) w1.heap.size w3 (termsOf h'' ws) wz ∧ w8.grownBy wz (some w1.heap.size)) (fun v16 _ => wl.length - (intOf v16).toNat)
                  case atStart => exact ⟨0, h', Nat.zero_le _, rfl, HE0.out, HG.out, HS8.out, ⟨rfl, rfl, rfl, Nat.le_refl _, fun _ _ _ => rfl⟩⟩
                  case round =>
                    obtain ⟨k, h'', hk, rfl, hO'', hG'', hS'', hgz⟩ := hrel
                    obtain ⟨wz, rfl⟩ : ∃ wz : World, wz = wr := ⟨_, rfl⟩
                    have HO2 := Lib.hid hO''
                    have HG2 := Lib.hid hG''
                    have HS2 := Lib.hid hS''
                    have HGz := Lib.hid hgz
                    have hzz := hgz.size
                    have hnz := hS''.lt
                    clear hO'' hG'' hS'' hgz
                    by_cases hlk : k < wl.length
                    · have hkI : (k : Int) < (wl.length : Int) := by go_light; omega
                      have hk0 : (0 : Int) ≤ (k : Int) := by go_light; omega
                      have hkn : IntKind.i64.wrap ((k : Int) + 1) = (k : Int) + 1 := IntWalk.i64_in _ (by go_light; omega)
                      rcases HNw.out with hh | ⟨bw, rfl, hbw1, hbw2, hMw, htw⟩
                      · rw [hh] at hlk; simp at hlk
                      have c0 := (gr_cell HGz.out hbw2 (by go_light; omega)).trans (htw k hlk)
                      rw [Nat.zero_add] at c0
                      obtain ⟨z8, p0, p1, _, _⟩ := gr_box HX8.out HGz.out (by go_light; omega)
                      obtain ⟨hs8, hspos, hsin⟩ := HSw.out _ (List.getElem_mem hlk)
                      have HKy := Lib.hid (fun h0 => kH_yes (a := X) (b := Y) (v := ss) (u := ts) hlk h0 h'')
                      have HKo := Lib.hid (fun h0 => kH_no (a := X) (b := Y) (v := ss) (u := ts) hlk h0 h'')
                      obtain ⟨sw, hsw⟩ : ∃ sw, wl[k] = sw := ⟨_, rfl⟩
                      rw [hsw] at c0 hs8 hspos hsin HKy HKo
                      have HNm := Lib.hid (fun W => HNum.out sw hs8 W)
                      have HHf := Lib.hid (fun W => l03Half_c ss ts sw hpos hspos (by go_light; omega) (by go_light; omega) hs8 W)
                      have hnb := hN_b (v := ss.data.toList) (w := ts.data.toList) (u := sw.data.toList) (by have : sw.data.toList.length = sw.size := rfl; omega)
                      obtain ⟨n1, hn1⟩ : ∃ n1, shN ss.data.toList ts.data.toList sw.data.toList = n1 := ⟨_, rfl⟩
                      obtain ⟨num, hnum⟩ : ∃ num, Go.Proofs.YtjloadllckllpaaGreatDoor.hN ss.data.toList ts.data.toList sw.data.toList = num := ⟨_, rfl⟩
                      rw [hn1] at HNm
                      rw [hnum] at HHf hnb HKy HKo
                      have hbwz : bw < wz.heap.size := by go_light; omega
                      clear htw hsw hnum hn1
                      go_wp2_with fail
                      refine (HNm.out _).mono ?_
                      rintro e wy ⟨rfl, m8, rfl⟩
                      have hb8 := drewN_below wz m8
                      have hzy : wz.heap.size ≤ (wz.drewN m8).heap.size := Nat.le_refl _
                      have HS2 := Lib.hid (HS2.out.next hb8 (by go_light; omega))
                      have HGz := Lib.hid (gr_trans HGz.out (gr_below hb8))
                      have c8 := (hb8.cell (p := ⟨bw, k, none⟩) hbwz).trans c0
                      have p08 := (hb8.cell (p := ⟨g7, 0, none⟩) z8).trans p0
                      have p18 := (hb8.cell (p := ⟨g7, 1, none⟩) z8).trans p1
                      generalize wz.drewN m8 = wy at *
                      clear hb8 c0 p0 p1
                      have hbwy : bw < wy.heap.size := by go_light; omega
                      have zy8 : g7 < wy.heap.size := by go_light; omega
                      go_wp2_with fail
                      refine (HHf.out _).mono ?_
                      rintro e w9 ⟨rfl, m9, rfl⟩
                      have hb9 := drewN_below wy m9
                      have HB9 := Lib.hid hb9
                      have hz9 : wy.heap.size ≤ (wy.drewN m9).heap.size := Nat.le_refl _
                      have HS9 := Lib.hid (HS2.out.next hb9 (by go_light; omega))
                      have HG9 := Lib.hid (gr_trans HGz.out (gr_below hb9))
                      have c9 := (hb9.cell (p := ⟨bw, k, none⟩) hbwy).trans c8
                      have p09 := (hb9.cell (p := ⟨g7, 0, none⟩) zy8).trans p08
                      have p19 := (hb9.cell (p := ⟨g7, 1, none⟩) zy8).trans p18
                      generalize wy.drewN m9 = w9 at *
                      clear hb9 c8 p08 p18
                      by_cases hz0 : num = 0
                      · have HE := Lib.hid (show ((shK X Y (kH ss ts (wl.drop (k + 1))) h'').bind (hfRow0 D N ⟨ss, x, d⟩ (ys.drop (j + 1)))).bind (hfM D N ys (xs.drop (i + 1))) = o by rw [← HO2.out, HKo.out hz0])
                        have hne : ((num : Int) == 0) = true := by go_light; rw [hz0]; rfl
                        clear hz0
                        go_wp2
                        go_roundw
                        case rel => go_light; exact ⟨k + 1, h'', by omega, by go_num, HE.out, HG2.out, HS9.out, HG9.out⟩
                        case measure => go_light; simp [intOf]; omega
                      have hne : ((num : Int) == 0) = false := by go_light; rw [beq_eq_false_iff_ne]; omega
                      have HKn := Lib.hid (HKy.out hz0)
                      clear hz0
                      obtain ⟨X2, Y2, ok2, hX2, hY2, hok2, HTg⟩ := timesNum_c X Y num HFp.out hnb
                      have HX2 := Lib.hid hX2
                      have HY2 := Lib.hid hY2
                      have HOk2 := Lib.hid hok2
                      clear hX2 hY2 hok2
                      go_wp2_with fail
                      refine (HTg.out _).mono ?_
                      rintro e wa ⟨rfl, hba⟩
                      have hza := hba.size
                      cases ok2 with
                      | false =>
                        have HE := Lib.hid (show none = o by rw [← HO2.out, HKn.out, shStep_no HOk2.out]; rfl)
                        obtain ⟨wb, hwb⟩ : ∃ wb, wa.alloc (.cells #[.int .i64 X2, .int .i64 Y2] 59) = wb := ⟨_, rfl⟩
                        have hbb : Below w9.heap.size w9 wb := by rw [← hwb]; exact hba.alloc hza _
                        have HSb := Lib.hid (HS9.out.next hbb (by go_light; omega))
                        obtain ⟨ez, e0, e1, e2, r0, r1, r2⟩ := HZ.out wb HSb.out.below
                        have HBb := Lib.hid (HW3.out.trans (HSb.out.below.mono (by go_light; omega)))
                        clear hba
                        (try (simp only []; go_at_K))
                        repeat (first | go_values | go_skip | go_guarded | go_step | go_upon)
                        rw [← HE.out]
                        (try simp only [Exit.inBlock, Exit.then])
                        refine bodyPost_ret (v := .tuple #[.agg #[.int .i64 0, .int .i64 0, .slice none 0 0], .bool false]) (by simp [results, Tryz.results19, go_sem, e0, e1, e2]) rfl ?_
                        exact ⟨rfl, ((HBb.out.setCell (p := ⟨w.heap.size + 1 + 1, 0, none⟩) (by go_light; show _ ≤ w.heap.size + 1 + 1; omega) _).setCell (p := ⟨w.heap.size + 1 + 1, 1, none⟩) (by go_light; show _ ≤ w.heap.size + 1 + 1; omega) _).setCell (p := ⟨w.heap.size + 1 + 1, 2, none⟩) (by go_light; show _ ≤ w.heap.size + 1 + 1; omega) _⟩
                      | true =>
                        have HSt := Lib.hid (show shStep X Y h'' (sw, num) = putF h'' sw X2 Y2 by rw [shStep_yes HOk2.out, HX2.out, HY2.out])
                        have HFq := Lib.hid (isF_abs (show isF X2 Y2 = true by rw [← HX2.out, ← HY2.out]; exact fOk_isFp HOk2.out))
                        have HGd := Lib.hid (HG2.out)
                        obtain ⟨wb, hwb⟩ : ∃ wb, wa.alloc (.cells #[.int .i64 X2, .int .i64 Y2] 59) = wb := ⟨_, rfl⟩
                        have hbb : Below w9.heap.size w9 wb := by rw [← hwb]; exact hba.alloc hza _
                        have hzb : wa.heap.size < wb.heap.size := by rw [← hwb]; simp
                        have q0 : wb.cell? ⟨wa.heap.size, 0, none⟩ = some (.int .i64 X2) := by subst hwb; go_simp
                        have q1 : wb.cell? ⟨wa.heap.size, 1, none⟩ = some (.int .i64 Y2) := by subst hwb; go_simp
                        have HSb := Lib.hid (HS9.out.next hbb (by go_light; omega))
                        have HGb := Lib.hid (gr_trans HG9.out (gr_below hbb))
                        obtain ⟨av, cv, hlc, hNr, hBl, hBe⟩ := HSb.out
                        have HBl := Lib.hid hBl
                        have n2 : wb.cell? ⟨w1.heap.size, 2, none⟩ = some (.slice av (termsOf h'' ws).length cv) := hBl.cell 2
                        have nf : wb.frozen? ⟨w1.heap.size, 2, none⟩ = false := hBl.frozen 2
                        have cb := (hbb.cell (p := ⟨bw, k, none⟩) (by go_light; show bw < _; omega)).trans c9
                        have hlen : (termsOf h'' ws).length ≤ 2097152 := by have := termsOf_few h'' ws; omega
                        have hbw9 : bw < wb.heap.size := by go_light; omega
                        have hnb9 : w1.heap.size < wb.heap.size := by go_light; omega
                        have HPc := Lib.hid (l01Put_c av (termsOf h'' ws).length cv (termsOf h'' ws) rfl sw X2 Y2 ⟨HFq.out.1, HFq.out.2.1⟩ (fun t ht => by
                          have h1 := (termsOf_iff.1 ht).2
                          have h2 := isF_abs (HG2.out _ _ h1).2.1
                          exact ⟨h2.1, h2.2.1⟩) hlen hlc wb.drew hNr.row)
                        rw [putL_termsOf HAs.out hsin] at HPc
                        clear hba hbb hBl hNr hlen c9 p09 p19
                        go_upto_region 25 with fail
                        cases hp : putF h'' sw X2 Y2 with
                        | none =>
                          rw [hp] at HPc HSt
                          simp only [Option.map_none] at HPc
                          clear hp
                          go_cut [20, 21] (fun s8 s9 wy => Below wb.heap.size wb wy ∧ s8 = .slice none 0 0 ∧ s9 = .bool false)
                          case first =>
                            go_region_held3 (fun w' => w'.cell? ⟨w1.heap.size, 2, none⟩ = some (.slice av (termsOf h'' ws).length cv) ∧ w'.cell? ⟨bw, k, none⟩ = some (.string sw) ∧ w'.cell? ⟨wa.heap.size, 0, none⟩ = some (.int .i64 X2) ∧ w'.cell? ⟨wa.heap.size, 1, none⟩ = some (.int .i64 Y2))
                              (go_keep)
                              ((go_at_call 42; refine HPc.out.mono ?_; rintro e w5 ⟨rfl, hB5⟩; have bc := bcellB hB5; have z1 := (bc.1 _ 2 hnb9).trans n2; have z2 := (bc.1 bw k hbw9).trans cb; have z3 := (bc.1 wa.heap.size 0 hzb).trans q0; have z4 := (bc.1 wa.heap.size 1 hzb).trans q1))
                            all_goals (go_wp2_with fail; go_meet)
                            exact ⟨⟨hB5.os, hB5.tape, hB5.output, hB5.size, hB5.block⟩, rfl, rfl⟩
                          case rest =>
                            obtain ⟨hbc, rfl, rfl⟩ := hcut
                            obtain ⟨w6, rfl⟩ : ∃ w6 : World, w6 = wc := ⟨_, rfl⟩
                            have HE := Lib.hid (show none = o by rw [← HO2.out, HKn.out, HSt.out]; rfl)
                            have HSc := Lib.hid (HSb.out.next hbc (by go_light; omega))
                            obtain ⟨ez, e0, e1, e2, r0, r1, r2⟩ := HZ.out w6 HSc.out.below
                            have HBb := Lib.hid (HW3.out.trans (HSc.out.below.mono (by go_light; omega)))
                            clear hbc
                            repeat (first | go_values | go_skip | go_guarded | go_step | go_upon)
                            rw [← HE.out]
                            (try simp only [Exit.inBlock, Exit.then])
                            refine bodyPost_ret (v := .tuple #[.agg #[.int .i64 0, .int .i64 0, .slice none 0 0], .bool false]) (by simp [results, Tryz.results19, go_sem, e0, e1, e2]) rfl ?_
                            exact ⟨rfl, ((HBb.out.setCell (p := ⟨w.heap.size + 1 + 1, 0, none⟩) (by go_light; show _ ≤ w.heap.size + 1 + 1; omega) _).setCell (p := ⟨w.heap.size + 1 + 1, 1, none⟩) (by go_light; show _ ≤ w.heap.size + 1 + 1; omega) _).setCell (p := ⟨w.heap.size + 1 + 1, 2, none⟩) (by go_light; show _ ≤ w.heap.size + 1 + 1; omega) _⟩
                        | some h3 =>
                          rw [hp] at HPc HSt
                          simp only [Option.map_some] at HPc
                          clear hp
                          go_cut [20, 21] (fun s8 s9 wy => ∃ (a : Option Addr) (cap : Nat), Below wb.heap.size wb wy ∧ s8 = .slice a (termsOf h3 ws).length cap ∧ s9 = .bool true ∧ (termsOf h3 ws).length ≤ cap ∧ NewRow wb.heap.size wy.heap.size wy a (termsOf h3 ws))
                          case first =>
                            go_region_held3 (fun w' => w'.cell? ⟨w1.heap.size, 2, none⟩ = some (.slice av (termsOf h'' ws).length cv) ∧ w'.cell? ⟨bw, k, none⟩ = some (.string sw) ∧ w'.cell? ⟨wa.heap.size, 0, none⟩ = some (.int .i64 X2) ∧ w'.cell? ⟨wa.heap.size, 1, none⟩ = some (.int .i64 Y2))
                              (go_keep)
                              ((go_at_call 42; refine HPc.out.mono ?_; rintro e w5 ⟨a5, c5, rfl, hlc5, hB5, hN5⟩; have bc := bcellB hB5; have z1 := (bc.1 _ 2 hnb9).trans n2; have z2 := (bc.1 bw k hbw9).trans cb; have z3 := (bc.1 wa.heap.size 0 hzb).trans q0; have z4 := (bc.1 wa.heap.size 1 hzb).trans q1))
                            all_goals (go_wp2_with fail; go_meet)
                            exact ⟨a5, c5, ⟨hB5.os, hB5.tape, hB5.output, hB5.size, hB5.block⟩, rfl, rfl, hlc5, hN5⟩
                          case rest =>
                            obtain ⟨a5, c5, hbc, rfl, rfl, hlc5, hN5⟩ := hcut
                            obtain ⟨w6, rfl⟩ : ∃ w6 : World, w6 = wc := ⟨_, rfl⟩
                            have hsz := hbc.size
                            have bc := bcellB hbc
                            have n6 : w6.cell? ⟨w1.heap.size, 2, none⟩ = some (.slice av (termsOf h'' ws).length cv) := (bc.1 _ _ hnb9).trans n2
                            have nf6 : w6.frozen? ⟨w1.heap.size, 2, none⟩ = false := (bc.2 _ _ hnb9).trans nf
                            have HE := Lib.hid (show ((shK X Y (kH ss ts (wl.drop (k + 1))) h3).bind (hfRow0 D N ⟨ss, x, d⟩ (ys.drop (j + 1)))).bind (hfM D N ys (xs.drop (i + 1))) = o by rw [← HO2.out, HKn.out, HSt.out]; rfl)
                            have HG3 := Lib.hid (GoodV.shStep (x := (sw, num)) HG2.out hsin HSt.out)
                            have HSn := Lib.hid (show OutS D N (w.heap.size + 1 + 1 + 1) w1.heap.size w3 (termsOf h3 ws) (w6.setCell ⟨w1.heap.size, 2, none⟩ (.slice a5 (termsOf h3 ws).length c5)) from
                              ⟨a5, c5, hlc5, (hN5.far1s (n := w1.heap.size) (i := 2) (x := .slice a5 (termsOf h3 ws).length c5) hnb9).mono (show w.heap.size + 1 + 1 + 1 ≤ _ by omega) (show _ ≤ (w6.setCell ⟨w1.heap.size, 2, none⟩ (.slice a5 (termsOf h3 ws).length c5)).heap.size by simp), (HBl.out.below hbc hnb9).set_ 2 _, (HSb.out.below.trans (hbc.mono (by go_light; omega))).setCell (p := ⟨w1.heap.size, 2, none⟩) (by go_light; show _ ≤ w1.heap.size; omega) _⟩)
                            have HGn := Lib.hid (gr_trans (gr_trans HGb.out (gr_below hbc)) (gr_set w6 w1.heap.size 2 (.slice a5 (termsOf h3 ws).length c5)))
                            clear bc hbc hN5
                            go_wp2
                            go_roundw
                            case rel => go_light; exact ⟨k + 1, h3, by omega, by go_num, HE.out, HG3.out, HSn.out, HGn.out⟩
                            case measure => go_light; simp [intOf]; omega
                    · obtain rfl : k = wl.length := by go_light; omega
                      have HE := Lib.hid (show (hfRow0 D N ⟨ss, x, d⟩ (ys.drop (j + 1)) h'').bind (hfM D N ys (xs.drop (i + 1))) = o by have h1 := HO2.out; rw [kH_end (Nat.le_refl _)] at h1; exact h1)
                      go_wp2
                      go_roundw
                      case rel => go_light; exact ⟨j + 1, h'', by omega, by go_num, HE.out, HG2.out, HS2.out⟩
                      case measure => go_light; simp [intOf]; omega
                · have hfI : (N : Int) < (ss.size : Int) + (ts.size : Int) := by go_light; omega
                  have HE := Lib.hid (show (hfRow0 D N ⟨ss, x, d⟩ (ys.drop (j + 1)) h').bind (hfM D N ys (xs.drop (i + 1))) = o by
                    rw [← HO.out, HNr.out, hfPair_far (s := ⟨ss, x, d⟩) (t := ⟨ts, y, e⟩) HOk.out hfit]; rfl)
                  go_wp2
                  go_roundw
                  case rel => go_light; exact ⟨j + 1, h', by omega, by go_num, HE.out, HG.out, HS7.out⟩
                  case measure => go_light; simp [intOf]; omega
        · obtain rfl : j = ys.length := by go_light; omega
          have HE := Lib.hid (show hfM D N ys (xs.drop (i + 1)) h' = o by have h1 := HO.out; rw [hfRow0_end (Nat.le_refl _)] at h1; exact h1)
          go_wp2
          go_roundw
          case rel => go_light; exact ⟨i + 1, h', by omega, by go_num, HE.out, HG.out, HS.out⟩
          case measure => go_light; simp [intOf]; omega
    · obtain rfl : i = xs.length := by go_light; omega
      have HE := Lib.hid (show some h = o by have h1 := HO.out; rw [hfM_end (Nat.le_refl _)] at h1; exact h1)
      have HBw := Lib.hid (HW3.out.trans (HS.out.below.mono (by go_light; omega)))
      obtain ⟨av, cv, hlc, hNr, hBl, hBe⟩ := HS.out
      have m0 : wo.cell? ⟨w1.heap.size, 0, none⟩ = some (.int .i64 D) := hBl.cell 0
      have m1 : wo.cell? ⟨w1.heap.size, 1, none⟩ = some (.int .i64 N) := hBl.cell 1
      have m2 : wo.cell? ⟨w1.heap.size, 2, none⟩ = some (.slice av (termsOf h ws).length cv) := hBl.cell 2
      obtain ⟨ez, e0, e1, e2, r0, r1, r2⟩ := HZ.out wo HS.out.below
      have HNr := Lib.hid hNr
      clear hNr hBl hBe hlc
      repeat (first | go_values | go_skip | go_guarded | go_step | go_upon)
      rw [← HE.out]
      (try simp only [Exit.inBlock, Exit.then])
      refine bodyPost_ret (v := .tuple #[.agg #[.int .i64 D, .int .i64 N, .slice av (termsOf h ws).length cv], .bool true]) (by simp [results, Tryz.results19, go_sem, e0, e1, e2]) rfl ?_
      exact ⟨av, cv, rfl, ((HBw.out.setCell (p := ⟨w.heap.size + 1 + 1, 0, none⟩) (by go_light; show _ ≤ w.heap.size + 1 + 1; omega) _).setCell (p := ⟨w.heap.size + 1 + 1, 1, none⟩) (by go_light; show _ ≤ w.heap.size + 1 + 1; omega) _).setCell (p := ⟨w.heap.size + 1 + 1, 2, none⟩) (by go_light; show _ ≤ w.heap.size + 1 + 1; omega) _, (((HNr.out.far1s (by go_light; omega)).far1s (by go_light; omega)).far1s (by go_light; omega)).mono (by go_light; omega) (by simp)⟩
end Go.Proofs.YtjloadllckllpaaGreatDoor
