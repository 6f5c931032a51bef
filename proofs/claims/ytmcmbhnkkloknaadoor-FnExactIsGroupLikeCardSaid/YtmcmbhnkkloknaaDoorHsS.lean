/-
  Plain mathematics: whether a series has wanted values at the shuffles of all pairs of words: the first pair that does not, or for which something does not fit, decides.
  Whether the values at the shuffles of all pairs of words are the wanted ones: contracts of the model's l03Holds.
  Whether the values at the shuffles of all pairs of words are the products: contract of the model's l03Holds.
-/
import Derived.Test.YtmcmbhnkkloknaaDoorShV
import Derived.Test.YtmcmbhnkkloknaaDoorPrM
import Derived.Test.YtmcmbhnkkloknaaDoorSerU
import Derived.Test.YtmcmbhnkkloknaaDoorNew4
import Derived.Test.YtmcmbhnkkloknaaDoorMapV
import Derived.Deep.RegionHeld3
namespace Go.Proofs.YtmcmbhnkkloknaaDoor
set_option linter.unusedVariables false

/-- a pair of words -/
abbrev Pq := ByteArray × ByteArray
/-- what one pair comes to: none where something does not fit -/
def hsAt (ys : List Tm) (D : Nat) (want : Pq → Option (Int × Int)) (p : Pq) : Option Bool :=
  (want p).bind fun q => (pairL ys (shL D p.1 p.2) (0, 1)).map fun a => decide (a = q)
theorem hsAt_1 {ys : List Tm} {D : Nat} {want : Pq → Option (Int × Int)} {p : Pq} (h : want p = none) : hsAt ys D want p = none := by unfold hsAt; rw [h]; rfl
theorem hsAt_2 {ys : List Tm} {D : Nat} {want : Pq → Option (Int × Int)} {p : Pq} {q : Int × Int} (h : want p = some q) (h2 : pairL ys (shL D p.1 p.2) (0, 1) = none) : hsAt ys D want p = none := by unfold hsAt; rw [h, Option.bind_some, h2]; rfl
theorem hsAt_3 {ys : List Tm} {D : Nat} {want : Pq → Option (Int × Int)} {p : Pq} {q a : Int × Int} (h : want p = some q) (h2 : pairL ys (shL D p.1 p.2) (0, 1) = some a) : hsAt ys D want p = some (decide (a = q)) := by unfold hsAt; rw [h, Option.bind_some, h2]; rfl
def hsL (st : Pq → Option Bool) : List Pq → Bool × Int
  | [] => (true, 0)
  | p :: r => match st p with
    | none => (false, 3)
    | some false => (false, 0)
    | some true => hsL st r
theorem hsL_none {st : Pq → Option Bool} {p : Pq} {r : List Pq} (h : st p = none) : hsL st (p :: r) = (false, 3) := by rw [hsL, h]
theorem hsL_no {st : Pq → Option Bool} {p : Pq} {r : List Pq} (h : st p = some false) : hsL st (p :: r) = (false, 0) := by rw [hsL, h]
theorem hsL_yes {st : Pq → Option Bool} {p : Pq} {r : List Pq} (h : st p = some true) : hsL st (p :: r) = hsL st r := by rw [hsL, h]
/-- the pairs of a word with words that are not too long together with it -/
def pqAt (n : Nat) (ws : List ByteArray) (v : ByteArray) : List Pq := (ws.filter fun w => decide (v.size + w.size ≤ n)).map fun w => (v, w)
def pqL (n : Nat) (ws vs : List ByteArray) : List Pq := vs.flatMap (pqAt n ws)
theorem pqAt_yes {n : Nat} {ws : List ByteArray} {v : ByteArray} {j : Nat} (hj : j < ws.length) (h : v.size + (ws[j]).size ≤ n) : pqAt n (ws.drop j) v = (v, ws[j]) :: pqAt n (ws.drop (j + 1)) v := by
  unfold pqAt
  rw [List.drop_eq_getElem_cons hj, List.filter_cons_of_pos (by simpa using h), List.map_cons]
theorem pqAt_no {n : Nat} {ws : List ByteArray} {v : ByteArray} {j : Nat} (hj : j < ws.length) (h : ¬ v.size + (ws[j]).size ≤ n) : pqAt n (ws.drop j) v = pqAt n (ws.drop (j + 1)) v := by
  unfold pqAt
  rw [List.drop_eq_getElem_cons hj, List.filter_cons_of_neg (by simpa using h)]
theorem pqAt_end {n : Nat} {ws : List ByteArray} {v : ByteArray} {j : Nat} (hj : ws.length ≤ j) : pqAt n (ws.drop j) v = [] := by
  rw [List.drop_eq_nil_of_le hj]; rfl
theorem pqAt_stop {n : Nat} {ws : List ByteArray} (hs : ws.Pairwise fun a b => a.size ≤ b.size) {v : ByteArray} {j : Nat} (hj : j < ws.length) (h : ¬ v.size + (ws[j]).size ≤ n) : pqAt n (ws.drop j) v = [] := by
  unfold pqAt
  rw [List.map_eq_nil_iff, List.filter_eq_nil_iff]
  intro w hw
  obtain ⟨k, hk, rfl⟩ := List.getElem_of_mem hw
  rw [List.length_drop] at hk
  rw [List.getElem_drop]
  have hle : (ws[j]).size ≤ (ws[j + k]'(by omega)).size := by
    by_cases e : k = 0
    · subst e; exact Nat.le_refl _
    · exact List.pairwise_iff_getElem.1 hs j (j + k) hj (by omega) (by omega)
  simp only [decide_eq_true_eq]
  omega
theorem pqL_next {n : Nat} {ws vs : List ByteArray} {i : Nat} (hi : i < vs.length) : pqL n ws (vs.drop i) = pqAt n (ws.drop 0) vs[i] ++ pqL n ws (vs.drop (i + 1)) := by
  unfold pqL
  rw [List.drop_eq_getElem_cons hi, List.flatMap_cons]
  rfl
theorem pqL_end {n : Nat} {ws vs : List ByteArray} {i : Nat} (hi : vs.length ≤ i) : pqL n ws (vs.drop i) = [] := by
  unfold pqL
  rw [List.drop_eq_nil_of_le hi]; rfl
/-- the words of 1 to m letters -/
def upW (D : Nat) : Nat → List ByteArray
  | 0 => []
  | m + 1 => upW D m ++ wordsL D (m + 1)
theorem allW_up (D : Nat) : ∀ m, allW D m = ByteArray.empty :: upW D m
  | 0 => rfl
  | m + 1 => by rw [allW, allW_up D m, upW, List.cons_append]
theorem upW_size (D : Nat) : ∀ m, ∀ s ∈ upW D m, 1 ≤ s.size ∧ s.size ≤ m
  | 0, s, h => by cases h
  | m + 1, s, h => by
    rw [upW] at h
    rcases List.mem_append.1 h with h | h
    · have := upW_size D m s h; omega
    · have := wordsL_size D (m + 1) s h; omega
theorem upW_B {D : Nat} (hD : D ≤ 3) : ∀ m, ∀ s ∈ upW D m, wordB (D : Int) s.data.toList = true
  | 0, s, h => by cases h
  | m + 1, s, h => by
    rw [upW] at h
    rcases List.mem_append.1 h with h | h
    · exact upW_B hD m s h
    · exact wordsL_B hD (m + 1) s h
theorem upW_len (D m : Nat) : (upW D m).length + 1 = (allW D m).length := by rw [allW_up]; simp
theorem upW_up (D : Nat) : ∀ m, (upW D m).Pairwise fun a b => a.size ≤ b.size
  | 0 => List.Pairwise.nil
  | m + 1 => by
    rw [upW, List.pairwise_append]
    refine ⟨upW_up D m, ?_, fun a ha b hb => ?_⟩
    · rw [List.pairwise_iff_getElem]
      intro i j hi hj _
      have h1 := wordsL_size D (m + 1) _ (List.getElem_mem hi)
      have h2 := wordsL_size D (m + 1) _ (List.getElem_mem hj)
      omega
    · have h1 := upW_size D m a ha
      have h2 := wordsL_size D (m + 1) b hb
      omega
theorem pqAt_app {n : Nat} {ws us : List ByteArray} {v : ByteArray} (h : ∀ w ∈ us, ¬ v.size + w.size ≤ n) : pqAt n (ws ++ us) v = pqAt n ws v := by
  unfold pqAt
  rw [List.filter_append]
  have e : (us.filter fun w => decide (v.size + w.size ≤ n)) = [] := List.filter_eq_nil_iff.2 fun w hw => by simpa using h w hw
  rw [e, List.append_nil]
/-- the pairs of words of the program are the model's: a word of the greatest length goes with none -/
theorem pqL_same (D m : Nat) : pqL (m + 1) (upW D (m + 1)) (upW D (m + 1)) = pqL (m + 1) (upW D m) (upW D m) := by
  unfold pqL
  rw [upW, List.flatMap_append]
  have h2 : (wordsL D (m + 1)).flatMap (pqAt (m + 1) (upW D m ++ wordsL D (m + 1))) = [] := by
    rw [List.flatMap_eq_nil_iff]
    intro v hv
    have h := wordsL_size D (m + 1) v hv
    unfold pqAt
    rw [List.map_eq_nil_iff, List.filter_eq_nil_iff]
    intro w hw
    simp only [decide_eq_true_eq]
    rcases List.mem_append.1 hw with h3 | h3
    · have := upW_size D m w h3; omega
    · have := wordsL_size D (m + 1) w h3; omega
  rw [h2, List.append_nil]
  have key : ∀ vs : List ByteArray, (∀ v ∈ vs, 1 ≤ v.size) → vs.flatMap (pqAt (m + 1) (upW D m ++ wordsL D (m + 1))) = vs.flatMap (pqAt (m + 1) (upW D m)) := by
    intro vs
    induction vs with
    | nil => intro _; rfl
    | cons v vs ih =>
      intro h
      rw [List.flatMap_cons, List.flatMap_cons, ih fun u hu => h u (List.mem_cons_of_mem _ hu)]
      rw [pqAt_app]
      intro w hw
      have h1 := wordsL_size D (m + 1) w hw
      have h3 := h v (List.mem_cons_self ..)
      omega
  exact key _ fun v hv => (upW_size D m v hv).1
end Go.Proofs.YtmcmbhnkkloknaaDoor

namespace Go.Proofs.YtmcmbhnkkloknaaDoor
open Go.RowKit
set_option linter.unusedVariables false

/-- what is wanted: the product of both values, or nought -/
def hsW (ys : List Tm) (pr : Bool) (p : Pq) : Option (Int × Int) :=
  if pr then (if fOk ((valL p.1.data.toList ys).1 * (valL p.2.data.toList ys).1) ((valL p.1.data.toList ys).2 * (valL p.2.data.toList ys).2) then some (fN ((valL p.1.data.toList ys).1 * (valL p.2.data.toList ys).1) ((valL p.1.data.toList ys).2 * (valL p.2.data.toList ys).2), fD ((valL p.1.data.toList ys).1 * (valL p.2.data.toList ys).1) ((valL p.1.data.toList ys).2 * (valL p.2.data.toList ys).2)) else none) else some (0, 1)
def HsPost (r : Bool × Int) (W : World) (e : Ending) (w' : World) : Prop := e = .returned (.tuple #[.bool r.1, .int .i64 r.2]) ∧ Below W.heap.size W w'
def hsR (ys : List Tm) (D N m : Nat) (pr : Bool) : Bool × Int := hsL (hsAt ys D (hsW ys pr)) (pqL N (upW D m) (upW D m))
set_option maxRecDepth 100000 in
set_option maxHeartbeats 16000000 in
theorem l03Holds_no (D N m : Nat) (hNm : m + 1 = N) (g1 cap : Nat) (ys : List Tm) (hl : ys.length ≤ 1048576) (hs2 : serB (D : Int) (N : Int) ys = true) (w : World) (hb1 : g1 < w.heap.size) (t1 : TermsIn w g1 0 ys) :
    Calls Tryd.prog 15 #[.agg #[.int .i64 D, .int .i64 N, .slice (some ⟨g1, 0, none⟩) ys.length cap], .bool false] w (HsPost (hsR ys D N m false) w) := by
  have hsh := shape_out (show shapeB (D : Int) (N : Int) = true from by have h := hs2; unfold serB at h; rw [Bool.and_eq_true] at h; exact h.1)
  have hfewm := allW_few (D := D) (by omega) (n := m) (by omega)
  have hlenm := upW_len D m
  have hmax : ∀ k, k ≤ m → (upW D k).length ≤ 1458 := fun k hk => by
    have h1 := allW_few (D := D) (by omega) (n := k) (by omega)
    have h2 := upW_len D k
    omega
  have HMax := Lib.hid hmax
  have HT1 := Lib.hid t1
  have HZ := Lib.hid (fun s => valL_isF hs2 s)
  have HAt := Lib.hid (fun v u (hvu : v.size + u.size ≤ 5) W hb ht => l03At_c D N g1 cap ys hl hs2 v u hvu W hb ht)
  obtain ⟨o, ho⟩ : ∃ o, hsR ys D N m false = o := ⟨_, rfl⟩
  rw [ho]
  have HOut := Lib.hid (show hsL (hsAt ys D (hsW ys false)) (pqL N (upW D m) (upW D m)) = o from ho)
  clear t1 hs2 ho hmax
  go_enter Tryd.func15, Tryd.ntmps15
  go_wp2_with fail
  go_loopw [6, 7] (fun v6 v7 wr => ∃ (k : Nat) (a : Option Addr) (l c : Nat), k ≤ m ∧ v7 = .int .i64 ((k : Int) + 1) ∧ v6 = .slice a l c ∧ l = (upW D k).length ∧ OwnS wr (w.heap.size + 1) (.slice a l c) (upW D k) ∧ Below (w.heap.size + 1) (w.alloc (.cells #[.int .i64 D, .int .i64 N, .slice (some ⟨g1, 0, none⟩) ys.length cap] 30)) wr) (fun _ v7 _ => N - (intOf v7).toNat)
  case atStart =>
    refine ⟨0, _, 0, 0, Nat.zero_le _, by first | rfl | (congr 1), rfl, rfl, ?_, ?_⟩
    · exact OwnS.emptyRow (by have h := heap_alloc_new (w.alloc (.cells #[.int .i64 D, .int .i64 N, .slice (some ⟨g1, 0, none⟩) ys.length cap] 30)) (.cells #[] 9); simpa using h) (Nat.le_refl _)
    · have h := below1 (w.alloc (.cells #[.int .i64 D, .int .i64 N, .slice (some ⟨g1, 0, none⟩) ys.length cap] 30)) (.cells #[] 9)
      rwa [World.size_alloc] at h
  case round =>
    obtain ⟨k, a, l, c, hk, rfl, rfl, hlk, hO, hB⟩ := hrel
    have HO := Lib.hid hO
    have HB := Lib.hid hB
    have HL := Lib.hid hlk
    have hz := hB.size
    simp only [World.size_alloc] at hz
    have hfew := HMax.out k hk
    have bc := bcellB hB
    have x0 : wr.cell? ⟨w.heap.size, 0, none⟩ = some (.int .i64 D) := (bc.1 _ _ (by omega)).trans (by go_simp)
    have x1 : wr.cell? ⟨w.heap.size, 1, none⟩ = some (.int .i64 N) := (bc.1 _ _ (by omega)).trans (by go_simp)
    have x2 : wr.cell? ⟨w.heap.size, 2, none⟩ = some (.slice (some ⟨g1, 0, none⟩) ys.length cap) := (bc.1 _ _ (by omega)).trans (by go_simp)
    clear hO hB hlk bc
    by_cases hlt : k < m
    · have hltI : (k : Int) + 1 < (N : Int) := by omega
      have HWd := Lib.hid (fun W => by
        have h := l01Words_c D (k + 1) (by omega) (by omega) W
        rw [show ((k + 1 : Nat) : Int) = (k : Int) + 1 by omega] at h
        exact h)
      have k1 : IntKind.i64.wrap ((k : Int) + 1 + 1) = (k : Int) + 1 + 1 := IntWalk.i64_in _ (by omega)
      go_wp2_with fail
      refine (HWd.out _).mono ?_
      rintro e w1 ⟨a1, c1, rfl, hb1, hN1⟩
      have hz1 := hb1.size
      have HB1 := Lib.hid (HB.out.trans (hb1.mono (by omega)))
      have HO1 := Lib.hid (HO.out.below hb1 (fun g h => (HO.out.lt g h).2))
      have HR1 := Lib.hid hN1.row
      have hfew1 := wordsL_few (d := D) (n := k + 1) (by omega) (by omega)
      clear hb1 hN1 x0 x1 x2
      go_wp2_with (at_builtin; refine wpList_append_strs rfl _ _ rfl (w.heap.size + 1) (.slice a l c) l (upW D k) (wordsL D (k + 1)) rfl HL.out HO1.out a1 _ c1 rfl rfl ?_ (by have := HL.out; omega) (by omega) ?_)
      · rcases HR1.out with h | ⟨b, o, h1, h2, h3⟩
        · exact .inl (by rw [h]; rfl)
        · exact .inr ⟨b, o, h1, h3⟩
      intro a2 c2 w2 hO2 hG2 _
      have HB2 := Lib.hid (HB1.out.trans (own_grownS HO1.out hG2 (by omega)))
      have HO2 := Lib.hid hO2
      clear hO2 hG2
      go_wp2
      go_roundw
      case rel => exact ⟨k + 1, a2, _, c2, by omega, by first | rfl | (congr 1; omega) | go_num, rfl, by rw [upW, List.length_append, HL.out], HO2.out, HB2.out⟩
      case measure => simp [intOf]; omega
    · obtain rfl : k = m := by omega
      have hge : ¬ (k : Int) + 1 < (N : Int) := by omega
      have HWr := Lib.hid ((below1 w _).trans (HB.out.mono (by omega)))
      obtain ⟨bw, hbw2, hrow⟩ : ∃ bw, bw < wr.heap.size ∧ ∀ i (h : i < (upW D k).length), a = some ⟨bw, 0, none⟩ ∧ wr.cell? ⟨bw, i, none⟩ = some (.string (upW D k)[i]) := by
        rcases HO.out.at_.2 with h | ⟨b, e1, h1, h2, hM, ht⟩
        · exact ⟨w.heap.size, by omega, fun i hi => by rw [h] at hi; simp at hi⟩
        · exact ⟨b, h2, fun i hi => ⟨e1, by have := ht i hi; rwa [Nat.zero_add] at this⟩⟩
      have HRow := Lib.hid hrow
      have HSz := Lib.hid (upW_size D k)
      have hll := HL.out
      subst hll
      have KX := Lib.hid (show ∀ w', Below wr.heap.size wr w' → (w'.cell? ⟨w.heap.size, 0, none⟩ = some (.int .i64 D) ∧ w'.cell? ⟨w.heap.size, 1, none⟩ = some (.int .i64 N) ∧ w'.cell? ⟨w.heap.size, 2, none⟩ = some (.slice (some ⟨g1, 0, none⟩) ys.length cap)) from fun w' hb => ⟨(hb.cell (p := ⟨w.heap.size, 0, none⟩) (by show w.heap.size < _; omega)).trans x0, (hb.cell (p := ⟨w.heap.size, 1, none⟩) (by show w.heap.size < _; omega)).trans x1, (hb.cell (p := ⟨w.heap.size, 2, none⟩) (by show w.heap.size < _; omega)).trans x2⟩)
      obtain ⟨w3, rfl⟩ : ∃ w3 : World, w3 = wr := ⟨_, rfl⟩
      clear HO HB hrow
      generalize upW D k = ws at HOut HRow HSz hfew ⊢
      go_wp2_with fail
      clear x0 x1 x2
      go_loopw [8] (fun v8 wr => ∃ i : Nat, i ≤ ws.length ∧ v8 = .int .i64 i ∧ hsL (hsAt ys D (hsW ys false)) (pqL N ws (ws.drop i)) = o ∧ Below w3.heap.size w3 wr) (fun v8 _ => ws.length - (intOf v8).toNat)
      case atStart => exact ⟨0, Nat.zero_le _, rfl, HOut.out, Below.refl _ _⟩
      case round =>
        obtain ⟨i, hi, rfl, hI, hB⟩ := hrel
        have HI := Lib.hid hI
        have HB := Lib.hid hB
        have hzr := hB.size
        clear hI hB
        by_cases hlt : i < ws.length
        · obtain ⟨rfl, c0⟩ := HRow.out i hlt
          have HNx := Lib.hid (pqL_next (n := N) (ws := ws) (vs := ws) hlt)
          have hsi := HSz.out _ (List.getElem_mem hlt)
          have HCi := Lib.hid c0
          clear c0
          obtain ⟨s, hs⟩ : ∃ s, ws[i] = s := ⟨_, rfl⟩
          rw [hs] at HNx hsi HCi
          have HI0 := Lib.hid (show hsL (hsAt ys D (hsW ys false)) (pqAt N (ws.drop 0) s ++ pqL N ws (ws.drop (i + 1))) = o by rw [← HNx.out]; exact HI.out)
          have hiI : (i : Int) < (ws.length : Int) := by omega
          clear hs
          go_wp2_with fail
          go_loopw [9] (fun v9 wq => ∃ j : Nat, j ≤ ws.length ∧ v9 = .int .i64 j ∧ hsL (hsAt ys D (hsW ys false)) (pqAt N (ws.drop j) s ++ pqL N ws (ws.drop (i + 1))) = o ∧ Below w3.heap.size w3 wq) (fun v9 _ => ws.length - (intOf v9).toNat)
          case atStart => exact ⟨0, Nat.zero_le _, rfl, HI0.out, HB.out⟩
          case round =>
            obtain ⟨j, hj, rfl, hJ, hBj⟩ := hrel
            obtain ⟨wq, rfl⟩ : ∃ wq : World, wq = wr := ⟨_, rfl⟩
            have HJ := Lib.hid hJ
            have HBj := Lib.hid hBj
            have hzq := hBj.size
            have c1 := (hBj.cell (p := ⟨bw, i, none⟩) hbw2).trans HCi.out
            obtain ⟨x0, x1, x2⟩ := KX.out wq hBj
            clear hJ hBj
            by_cases hlj : j < ws.length
            · obtain ⟨-, c0⟩ := HRow.out j hlj
              have c2 := (HBj.out.cell (p := ⟨bw, j, none⟩) hbw2).trans c0
              have hsj := HSz.out _ (List.getElem_mem hlj)
              have HPy := Lib.hid (fun h => pqAt_yes (n := N) (ws := ws) (v := s) hlj h)
              have HPn := Lib.hid (fun h => pqAt_no (n := N) (ws := ws) (v := s) hlj h)
              obtain ⟨u, hu⟩ : ∃ u, ws[j] = u := ⟨_, rfl⟩
              rw [hu] at c2 hsj HPy HPn
              have hjI : (j : Int) < (ws.length : Int) := by omega
              have hi0 : (0 : Int) ≤ (i : Int) := by omega
              have hj0 : (0 : Int) ≤ (j : Int) := by omega
              have hsum : IntKind.i64.wrap ((s.size : Int) + (u.size : Int)) = (s.size : Int) + (u.size : Int) := IntWalk.i64_in _ (by omega)
              have hwz : w.heap.size < wq.heap.size := by omega
              have hbz : bw < wq.heap.size := by omega
              clear hu c0
              by_cases hfit : s.size + u.size ≤ N
              · have hfI : ¬ (N : Int) < (s.size : Int) + (u.size : Int) := by omega
                have HE := Lib.hid (HPy.out hfit)
                obtain ⟨oq, hoq⟩ : ∃ oq, pairL ys (shL D s u) (0, 1) = oq := ⟨_, rfl⟩
                have HOq := Lib.hid hoq
                have HA := Lib.hid (fun W (hW : Below wq.heap.size wq W) => (hoq ▸ HAt.out s u (by omega) W (by have := hW.size; have := HWr.out.size; omega) (HT1.out.below (HWr.out.trans ((HBj.out.trans (hW.mono hzq)).mono HWr.out.size)) hb1) : Calls Tryd.prog 35 #[.agg #[.int .i64 D, .int .i64 N, .slice (some ⟨g1, 0, none⟩) ys.length cap], .string s, .string u] W (PairPost oq W)))
                obtain ⟨A, Bq, ok, hpr⟩ : ∃ A Bq ok, pairR oq = (A, Bq, ok) := ⟨_, _, _, rfl⟩
                have HA2 := Lib.hid (fun W hW => (HA.out W hW).mono (R' := fun e w' => e = .returned (.tuple #[.agg #[.int .i64 A, .int .i64 Bq], .bool ok]) ∧ Below W.heap.size W w') (fun e w' h => by unfold PairPost at h; rw [hpr] at h; exact h))
                have HPr := Lib.hid hpr
                clear hoq hpr HA
                go_wp2_with fail
                go_region
                all_goals
                  have hbq := (below1 wq (.cells #[.int .i64 0, .int .i64 1] 37)).drew
                  have hzv : wq.heap.size < (wq.alloc (.cells #[.int .i64 0, .int .i64 1] 37)).drew.heap.size := by show wq.heap.size < (wq.alloc _).heap.size; simp
                  have Q0 : (wq.alloc (.cells #[.int .i64 0, .int .i64 1] 37)).drew.cell? ⟨wq.heap.size, 0, none⟩ = some (.int .i64 0) := by go_simp
                  have Q1 : (wq.alloc (.cells #[.int .i64 0, .int .i64 1] 37)).drew.cell? ⟨wq.heap.size, 1, none⟩ = some (.int .i64 1) := by go_simp
                  have y0 := (hbq.cell (p := ⟨w.heap.size, 0, none⟩) hwz).trans x0
                  have y1 := (hbq.cell (p := ⟨w.heap.size, 1, none⟩) hwz).trans x1
                  have y2 := (hbq.cell (p := ⟨w.heap.size, 2, none⟩) hwz).trans x2
                  have d1 := (hbq.cell (p := ⟨bw, i, none⟩) hbz).trans c1
                  have d2 := (hbq.cell (p := ⟨bw, j, none⟩) hbz).trans c2
                  go_upto_region 19 with fail
                  generalize (wq.alloc (.cells #[.int .i64 0, .int .i64 1] 37)).drew = wv at *
                  have hwv : w.heap.size < wv.heap.size := by omega
                  have hbv2 : bw < wv.heap.size := by omega
                  have HBv := Lib.hid (HBj.out.trans (hbq.mono (by omega)))
                  have HWn := Lib.hid (show hsW ys false (s, u) = some (0, 1) from rfl)
                  have HA3 := Lib.hid (fun W (hW : Below wv.heap.size wv W) => HA2.out W (hbq.trans (hW.mono (by omega))))
                  have KV := Lib.hid (show ∀ w', Below wv.heap.size wv w' → (w'.cell? ⟨w.heap.size, 0, none⟩ = some (.int .i64 D) ∧ w'.cell? ⟨w.heap.size, 1, none⟩ = some (.int .i64 N) ∧ w'.cell? ⟨w.heap.size, 2, none⟩ = some (.slice (some ⟨g1, 0, none⟩) ys.length cap) ∧ w'.cell? ⟨bw, i, none⟩ = some (.string s) ∧ w'.cell? ⟨bw, j, none⟩ = some (.string u)) from fun w' hb => ⟨(hb.cell (p := ⟨w.heap.size, 0, none⟩) hwv).trans y0, (hb.cell (p := ⟨w.heap.size, 1, none⟩) hwv).trans y1, (hb.cell (p := ⟨w.heap.size, 2, none⟩) hwv).trans y2, (hb.cell (p := ⟨bw, i, none⟩) hbv2).trans d1, (hb.cell (p := ⟨bw, j, none⟩) hbv2).trans d2⟩)
                  clear hbq x0 x1 x2 c1 c2 y0 y1 y2 d1 d2
                  go_cut [13, 14] (FrCutB wv A Bq ok)
                  case first =>
                    go_region_held3 (fun w' => w'.cell? ⟨w.heap.size, 0, none⟩ = some (.int .i64 D) ∧ w'.cell? ⟨w.heap.size, 1, none⟩ = some (.int .i64 N) ∧ w'.cell? ⟨w.heap.size, 2, none⟩ = some (.slice (some ⟨g1, 0, none⟩) ys.length cap) ∧ w'.cell? ⟨bw, i, none⟩ = some (.string s) ∧ w'.cell? ⟨bw, j, none⟩ = some (.string u))
                      ((refine KV.out _ ?_; repeat' (first | with_reducible assumption | with_reducible exact Below.refl _ _ | (with_reducible refine Below.drew ?_) | (with_reducible refine Below.setCell ?_ (by (try dsimp only); omega) _) | (with_reducible refine Below.alloc ?_ (by (try simp only [World.size_setCell]); (try simp only [World.size_drew]); (try simp only [World.size_alloc]); (try simp only [World.size_setCell]); (try simp only [World.size_alloc]); omega) _))))
                      (first
                        | (go_at_call 35; (with_reducible refine (HA3.out _ ?_).mono ?_); (focus repeat' (first | with_reducible assumption | with_reducible exact Below.refl _ _ | (with_reducible refine Below.drew ?_) | (with_reducible refine Below.setCell ?_ (by (try dsimp only); omega) _) | (with_reducible refine Below.alloc ?_ (by (try simp only [World.size_setCell]); (try simp only [World.size_drew]); (try simp only [World.size_alloc]); (try simp only [World.size_setCell]); (try simp only [World.size_alloc]); omega) _))); rintro e w5 ⟨rfl, hb0⟩; have hbw5 : Below wv.heap.size wv w5 := below_step (by repeat' (first | with_reducible assumption | with_reducible exact Below.refl _ _ | (with_reducible refine Below.drew ?_) | (with_reducible refine Below.setCell ?_ (by (try dsimp only); omega) _) | (with_reducible refine Below.alloc ?_ (by (try simp only [World.size_setCell]); (try simp only [World.size_drew]); (try simp only [World.size_alloc]); (try simp only [World.size_setCell]); (try simp only [World.size_alloc]); omega) _))) hb0 (Nat.le_refl _); have hzw5 := hbw5.size; (try have B0 : Box2 w5 wv.heap.size 0 0 := Box2.next (by exact (Box2.new wv 0 0 _).drew) hb0); (try obtain ⟨Bz0, b00, b01, b02, b03⟩ := id B0))
                        | fail)
                    all_goals (go_wp2_with fail; go_meet)
                    all_goals (refine ⟨_, rfl, rfl, ?_, ?_, ?_⟩)
                    all_goals (first | (with_reducible assumption) | (with_reducible exact Nat.le_refl _) | ((repeat' (first | with_reducible assumption | with_reducible exact Below.refl _ _ | (with_reducible refine Below.drew ?_) | (with_reducible refine Below.setCell ?_ (by (try dsimp only); omega) _) | (with_reducible refine Below.alloc ?_ (by (try simp only [World.size_setCell]); (try simp only [World.size_drew]); (try simp only [World.size_alloc]); (try simp only [World.size_setCell]); (try simp only [World.size_alloc]); omega) _))); done) | ((repeat' (first | with_reducible assumption | (with_reducible refine Box2.newAt ?_; first | with_reducible rfl | (simp only [World.size_alloc]; done)) | (with_reducible refine Box2.fill ?_) | (with_reducible refine Box2.alloc ?_ _) | fail)); done) | omega | fail)
                  case rest =>
                    obtain ⟨g8, rfl, rfl, hg8, hb8, hX8⟩ := hcut
                    obtain ⟨w8, rfl⟩ : ∃ w8 : World, w8 = wc := ⟨_, rfl⟩
                    have hz8 := hb8.size
                    have p0 := hX8.2.1
                    have p1 := hX8.2.2.1
                    have v0 := (hb8.cell (p := ⟨wq.heap.size, 0, none⟩) (by show wq.heap.size < _; omega)).trans Q0
                    have v1 := (hb8.cell (p := ⟨wq.heap.size, 1, none⟩) (by show wq.heap.size < _; omega)).trans Q1
                    have HB8 := Lib.hid (HBv.out.trans (hb8.mono (by omega)))
                    have HW8 := Lib.hid (HWr.out.trans (HB8.out.mono HWr.out.size))
                    clear hb8 hX8 Q0 Q1
                    cases oq with
                    | none =>
                      have h := HPr.out
                      simp only [pairR, Prod.mk.injEq] at h
                      obtain ⟨rfl, rfl, rfl⟩ := h
                      have HF := Lib.hid (show (false, (3 : Int)) = o by rw [← HJ.out, HE.out, List.cons_append, hsL_none (hsAt_2 HWn.out HOq.out)])
                      go_wp2
                      go_ret2
                      rw [← HF.out]
                      exact ⟨rfl, HW8.out⟩
                    | some ab =>
                      obtain ⟨a', b'⟩ := ab
                      have h := HPr.out
                      simp only [pairR, Prod.mk.injEq] at h
                      obtain ⟨rfl, rfl, rfl⟩ := h
                      by_cases heq : a' = 0 ∧ b' = 1
                      · obtain ⟨rfl, rfl⟩ := heq
                        have HJ1 := Lib.hid (show hsL (hsAt ys D (hsW ys false)) (pqAt N (ws.drop (j + 1)) s ++ pqL N ws (ws.drop (i + 1))) = o by
                          rw [← HJ.out, HE.out, List.cons_append, hsL_yes]
                          rw [hsAt_3 HWn.out HOq.out]
                          simp)
                        go_wp2_with fail
                        go_roundw
                        case rel => exact ⟨j + 1, by omega, by go_num, HJ1.out, HB8.out⟩
                        case measure => simp [intOf]; omega
                      · have HF := Lib.hid (show (false, (0 : Int)) = o by
                          rw [← HJ.out, HE.out, List.cons_append, hsL_no]
                          rw [hsAt_3 HWn.out HOq.out]
                          simp only [Prod.mk.injEq, Option.some.injEq, decide_eq_false_iff_not]
                          exact heq)
                        have hne := heq
                        go_wp2
                        all_goals
                          go_ret2
                          rw [← HF.out]
                          exact ⟨rfl, HW8.out⟩
              · have hfI : (N : Int) < (s.size : Int) + (u.size : Int) := by omega
                have HE := Lib.hid (HPn.out hfit)
                have HJ1 := Lib.hid (show hsL (hsAt ys D (hsW ys false)) (pqAt N (ws.drop (j + 1)) s ++ pqL N ws (ws.drop (i + 1))) = o by rw [← HE.out]; exact HJ.out)
                go_wp2_with fail
                go_region
                all_goals
                  go_wp2
                  go_roundw
                  case rel => exact ⟨j + 1, by omega, by go_num, HJ1.out, HBj.out.drew⟩
                  case measure => simp [intOf]; omega
            · obtain rfl : j = ws.length := by omega
              have HE := Lib.hid (show hsL (hsAt ys D (hsW ys false)) (pqL N ws (ws.drop (i + 1))) = o by
                have h := HJ.out
                rw [pqAt_end (Nat.le_refl _), List.nil_append] at h
                exact h)
              clear x0 x1 x2 c1
              go_wp2
              go_roundw
              case rel => exact ⟨i + 1, by omega, by go_num, HE.out, HBj.out⟩
              case measure => simp [intOf]; omega
        · obtain rfl : i = ws.length := by omega
          have HE := Lib.hid (show (true, (0 : Int)) = o by
            have h := HI.out
            rw [pqL_end (Nat.le_refl _)] at h
            exact h)
          go_wp2
          go_ret2
          rw [← HE.out]
          exact ⟨rfl, HWr.out.trans (HB.out.mono HWr.out.size)⟩
end Go.Proofs.YtmcmbhnkkloknaaDoor

namespace Go.Proofs.YtmcmbhnkkloknaaDoor
open Go.RowKit
set_option linter.unusedVariables false

set_option maxRecDepth 100000 in
set_option maxHeartbeats 16000000 in
theorem l03Holds_yes (D N m : Nat) (hNm : m + 1 = N) (g1 cap : Nat) (ys : List Tm) (hl : ys.length ≤ 1048576) (hs2 : serB (D : Int) (N : Int) ys = true) (w : World) (hb1 : g1 < w.heap.size) (t1 : TermsIn w g1 0 ys) :
    Calls Tryd.prog 15 #[.agg #[.int .i64 D, .int .i64 N, .slice (some ⟨g1, 0, none⟩) ys.length cap], .bool true] w (HsPost (hsR ys D N m true) w) := by
  have hsh := shape_out (show shapeB (D : Int) (N : Int) = true from by have h := hs2; unfold serB at h; rw [Bool.and_eq_true] at h; exact h.1)
  have hfewm := allW_few (D := D) (by omega) (n := m) (by omega)
  have hlenm := upW_len D m
  have hmax : ∀ k, k ≤ m → (upW D k).length ≤ 1458 := fun k hk => by
    have h1 := allW_few (D := D) (by omega) (n := k) (by omega)
    have h2 := upW_len D k
    omega
  have HMax := Lib.hid hmax
  have HT1 := Lib.hid t1
  have HZ := Lib.hid (fun s => valL_isF hs2 s)
  have HAt := Lib.hid (fun v u (hvu : v.size + u.size ≤ 5) W hb ht => l03At_c D N g1 cap ys hl hs2 v u hvu W hb ht)
  obtain ⟨o, ho⟩ : ∃ o, hsR ys D N m true = o := ⟨_, rfl⟩
  rw [ho]
  have HOut := Lib.hid (show hsL (hsAt ys D (hsW ys true)) (pqL N (upW D m) (upW D m)) = o from ho)
  clear t1 hs2 ho hmax
  go_enter Tryd.func15, Tryd.ntmps15
  go_wp2_with fail
  go_loopw [6, 7] (fun v6 v7 wr => ∃ (k : Nat) (a : Option Addr) (l c : Nat), k ≤ m ∧ v7 = .int .i64 ((k : Int) + 1) ∧ v6 = .slice a l c ∧ l = (upW D k).length ∧ OwnS wr (w.heap.size + 1) (.slice a l c) (upW D k) ∧ Below (w.heap.size + 1) (w.alloc (.cells #[.int .i64 D, .int .i64 N, .slice (some ⟨g1, 0, none⟩) ys.length cap] 30)) wr) (fun _ v7 _ => N - (intOf v7).toNat)
  case atStart =>
    refine ⟨0, _, 0, 0, Nat.zero_le _, by first | rfl | (congr 1), rfl, rfl, ?_, ?_⟩
    · exact OwnS.emptyRow (by have h := heap_alloc_new (w.alloc (.cells #[.int .i64 D, .int .i64 N, .slice (some ⟨g1, 0, none⟩) ys.length cap] 30)) (.cells #[] 9); simpa using h) (Nat.le_refl _)
    · have h := below1 (w.alloc (.cells #[.int .i64 D, .int .i64 N, .slice (some ⟨g1, 0, none⟩) ys.length cap] 30)) (.cells #[] 9)
      rwa [World.size_alloc] at h
  case round =>
    obtain ⟨k, a, l, c, hk, rfl, rfl, hlk, hO, hB⟩ := hrel
    have HO := Lib.hid hO
    have HB := Lib.hid hB
    have HL := Lib.hid hlk
    have hz := hB.size
    simp only [World.size_alloc] at hz
    have hfew := HMax.out k hk
    have bc := bcellB hB
    have x0 : wr.cell? ⟨w.heap.size, 0, none⟩ = some (.int .i64 D) := (bc.1 _ _ (by omega)).trans (by go_simp)
    have x1 : wr.cell? ⟨w.heap.size, 1, none⟩ = some (.int .i64 N) := (bc.1 _ _ (by omega)).trans (by go_simp)
    have x2 : wr.cell? ⟨w.heap.size, 2, none⟩ = some (.slice (some ⟨g1, 0, none⟩) ys.length cap) := (bc.1 _ _ (by omega)).trans (by go_simp)
    clear hO hB hlk bc
    by_cases hlt : k < m
    · have hltI : (k : Int) + 1 < (N : Int) := by omega
      have HWd := Lib.hid (fun W => by
        have h := l01Words_c D (k + 1) (by omega) (by omega) W
        rw [show ((k + 1 : Nat) : Int) = (k : Int) + 1 by omega] at h
        exact h)
      have k1 : IntKind.i64.wrap ((k : Int) + 1 + 1) = (k : Int) + 1 + 1 := IntWalk.i64_in _ (by omega)
      go_wp2_with fail
      refine (HWd.out _).mono ?_
      rintro e w1 ⟨a1, c1, rfl, hb1, hN1⟩
      have hz1 := hb1.size
      have HB1 := Lib.hid (HB.out.trans (hb1.mono (by omega)))
      have HO1 := Lib.hid (HO.out.below hb1 (fun g h => (HO.out.lt g h).2))
      have HR1 := Lib.hid hN1.row
      have hfew1 := wordsL_few (d := D) (n := k + 1) (by omega) (by omega)
      clear hb1 hN1 x0 x1 x2
      go_wp2_with (at_builtin; refine wpList_append_strs rfl _ _ rfl (w.heap.size + 1) (.slice a l c) l (upW D k) (wordsL D (k + 1)) rfl HL.out HO1.out a1 _ c1 rfl rfl ?_ (by have := HL.out; omega) (by omega) ?_)
      · rcases HR1.out with h | ⟨b, o, h1, h2, h3⟩
        · exact .inl (by rw [h]; rfl)
        · exact .inr ⟨b, o, h1, h3⟩
      intro a2 c2 w2 hO2 hG2 _
      have HB2 := Lib.hid (HB1.out.trans (own_grownS HO1.out hG2 (by omega)))
      have HO2 := Lib.hid hO2
      clear hO2 hG2
      go_wp2
      go_roundw
      case rel => exact ⟨k + 1, a2, _, c2, by omega, by first | rfl | (congr 1; omega) | go_num, rfl, by rw [upW, List.length_append, HL.out], HO2.out, HB2.out⟩
      case measure => simp [intOf]; omega
    · obtain rfl : k = m := by omega
      have hge : ¬ (k : Int) + 1 < (N : Int) := by omega
      have HWr := Lib.hid ((below1 w _).trans (HB.out.mono (by omega)))
      obtain ⟨bw, hbw2, hrow⟩ : ∃ bw, bw < wr.heap.size ∧ ∀ i (h : i < (upW D k).length), a = some ⟨bw, 0, none⟩ ∧ wr.cell? ⟨bw, i, none⟩ = some (.string (upW D k)[i]) := by
        rcases HO.out.at_.2 with h | ⟨b, e1, h1, h2, hM, ht⟩
        · exact ⟨w.heap.size, by omega, fun i hi => by rw [h] at hi; simp at hi⟩
        · exact ⟨b, h2, fun i hi => ⟨e1, by have := ht i hi; rwa [Nat.zero_add] at this⟩⟩
      have HRow := Lib.hid hrow
      have HSz := Lib.hid (upW_size D k)
      have hll := HL.out
      subst hll
      have KX := Lib.hid (show ∀ w', Below wr.heap.size wr w' → (w'.cell? ⟨w.heap.size, 0, none⟩ = some (.int .i64 D) ∧ w'.cell? ⟨w.heap.size, 1, none⟩ = some (.int .i64 N) ∧ w'.cell? ⟨w.heap.size, 2, none⟩ = some (.slice (some ⟨g1, 0, none⟩) ys.length cap)) from fun w' hb => ⟨(hb.cell (p := ⟨w.heap.size, 0, none⟩) (by show w.heap.size < _; omega)).trans x0, (hb.cell (p := ⟨w.heap.size, 1, none⟩) (by show w.heap.size < _; omega)).trans x1, (hb.cell (p := ⟨w.heap.size, 2, none⟩) (by show w.heap.size < _; omega)).trans x2⟩)
      obtain ⟨w3, rfl⟩ : ∃ w3 : World, w3 = wr := ⟨_, rfl⟩
      clear HO HB hrow
      generalize upW D k = ws at HOut HRow HSz hfew ⊢
      go_wp2_with fail
      clear x0 x1 x2
      go_loopw [8] (fun v8 wr => ∃ i : Nat, i ≤ ws.length ∧ v8 = .int .i64 i ∧ hsL (hsAt ys D (hsW ys true)) (pqL N ws (ws.drop i)) = o ∧ Below w3.heap.size w3 wr) (fun v8 _ => ws.length - (intOf v8).toNat)
      case atStart => exact ⟨0, Nat.zero_le _, rfl, HOut.out, Below.refl _ _⟩
      case round =>
        obtain ⟨i, hi, rfl, hI, hB⟩ := hrel
        have HI := Lib.hid hI
        have HB := Lib.hid hB
        have hzr := hB.size
        clear hI hB
        by_cases hlt : i < ws.length
        · obtain ⟨rfl, c0⟩ := HRow.out i hlt
          have HNx := Lib.hid (pqL_next (n := N) (ws := ws) (vs := ws) hlt)
          have hsi := HSz.out _ (List.getElem_mem hlt)
          have HCi := Lib.hid c0
          clear c0
          obtain ⟨s, hs⟩ : ∃ s, ws[i] = s := ⟨_, rfl⟩
          rw [hs] at HNx hsi HCi
          have HI0 := Lib.hid (show hsL (hsAt ys D (hsW ys true)) (pqAt N (ws.drop 0) s ++ pqL N ws (ws.drop (i + 1))) = o by rw [← HNx.out]; exact HI.out)
          have hiI : (i : Int) < (ws.length : Int) := by omega
          clear hs
          go_wp2_with fail
          go_loopw [9] (fun v9 wq => ∃ j : Nat, j ≤ ws.length ∧ v9 = .int .i64 j ∧ hsL (hsAt ys D (hsW ys true)) (pqAt N (ws.drop j) s ++ pqL N ws (ws.drop (i + 1))) = o ∧ Below w3.heap.size w3 wq) (fun v9 _ => ws.length - (intOf v9).toNat)
          case atStart => exact ⟨0, Nat.zero_le _, rfl, HI0.out, HB.out⟩
          case round =>
            obtain ⟨j, hj, rfl, hJ, hBj⟩ := hrel
            obtain ⟨wq, rfl⟩ : ∃ wq : World, wq = wr := ⟨_, rfl⟩
            have HJ := Lib.hid hJ
            have HBj := Lib.hid hBj
            have hzq := hBj.size
            have c1 := (hBj.cell (p := ⟨bw, i, none⟩) hbw2).trans HCi.out
            obtain ⟨x0, x1, x2⟩ := KX.out wq hBj
            clear hJ hBj
            by_cases hlj : j < ws.length
            · obtain ⟨-, c0⟩ := HRow.out j hlj
              have c2 := (HBj.out.cell (p := ⟨bw, j, none⟩) hbw2).trans c0
              have hsj := HSz.out _ (List.getElem_mem hlj)
              have HPy := Lib.hid (fun h => pqAt_yes (n := N) (ws := ws) (v := s) hlj h)
              have HPn := Lib.hid (fun h => pqAt_no (n := N) (ws := ws) (v := s) hlj h)
              obtain ⟨u, hu⟩ : ∃ u, ws[j] = u := ⟨_, rfl⟩
              rw [hu] at c2 hsj HPy HPn
              have hjI : (j : Int) < (ws.length : Int) := by omega
              have hi0 : (0 : Int) ≤ (i : Int) := by omega
              have hj0 : (0 : Int) ≤ (j : Int) := by omega
              have hsum : IntKind.i64.wrap ((s.size : Int) + (u.size : Int)) = (s.size : Int) + (u.size : Int) := IntWalk.i64_in _ (by omega)
              have hwz : w.heap.size < wq.heap.size := by omega
              have hbz : bw < wq.heap.size := by omega
              clear hu c0
              by_cases hfit : s.size + u.size ≤ N
              · have hfI : ¬ (N : Int) < (s.size : Int) + (u.size : Int) := by omega
                have HE := Lib.hid (HPy.out hfit)
                obtain ⟨oq, hoq⟩ : ∃ oq, pairL ys (shL D s u) (0, 1) = oq := ⟨_, rfl⟩
                have HOq := Lib.hid hoq
                have HA := Lib.hid (fun W (hW : Below wq.heap.size wq W) => (hoq ▸ HAt.out s u (by omega) W (by have := hW.size; have := HWr.out.size; omega) (HT1.out.below (HWr.out.trans ((HBj.out.trans (hW.mono hzq)).mono HWr.out.size)) hb1) : Calls Tryd.prog 35 #[.agg #[.int .i64 D, .int .i64 N, .slice (some ⟨g1, 0, none⟩) ys.length cap], .string s, .string u] W (PairPost oq W)))
                obtain ⟨A, Bq, ok, hpr⟩ : ∃ A Bq ok, pairR oq = (A, Bq, ok) := ⟨_, _, _, rfl⟩
                have HA2 := Lib.hid (fun W hW => (HA.out W hW).mono (R' := fun e w' => e = .returned (.tuple #[.agg #[.int .i64 A, .int .i64 Bq], .bool ok]) ∧ Below W.heap.size W w') (fun e w' h => by unfold PairPost at h; rw [hpr] at h; exact h))
                have HPr := Lib.hid hpr
                clear hoq hpr HA
                go_wp2_with fail
                go_region
                all_goals
                  have hbq := (below1 wq (.cells #[.int .i64 0, .int .i64 1] 37)).drew
                  have hzu : wq.heap.size < (wq.alloc (.cells #[.int .i64 0, .int .i64 1] 37)).drew.heap.size := by show wq.heap.size < (wq.alloc _).heap.size; simp
                  have hQ0 : Box2 (wq.alloc (.cells #[.int .i64 0, .int .i64 1] 37)).drew wq.heap.size 0 1 := (Box2.new wq 0 1 37).drew
                  have y0 := (hbq.cell (p := ⟨w.heap.size, 0, none⟩) hwz).trans x0
                  have y1 := (hbq.cell (p := ⟨w.heap.size, 1, none⟩) hwz).trans x1
                  have y2 := (hbq.cell (p := ⟨w.heap.size, 2, none⟩) hwz).trans x2
                  have d1 := (hbq.cell (p := ⟨bw, i, none⟩) hbz).trans c1
                  have d2 := (hbq.cell (p := ⟨bw, j, none⟩) hbz).trans c2
                  go_upto_region 15 with fail
                  generalize (wq.alloc (.cells #[.int .i64 0, .int .i64 1] 37)).drew = wu at *
                  have hwu : w.heap.size < wu.heap.size := by omega
                  have hbu2 : bw < wu.heap.size := by omega
                  have HQ := Lib.hid hQ0
                  have Hbq := Lib.hid hbq
                  have HX := Lib.hid (And.intro x0 (And.intro x1 (And.intro x2 (And.intro c1 c2))))
                  obtain ⟨av, bv, hab⟩ : ∃ a b, valL s.data.toList ys = (a, b) := ⟨_, _, rfl⟩
                  obtain ⟨cv, dv, hcd⟩ : ∃ a b, valL u.data.toList ys = (a, b) := ⟨_, _, rfl⟩
                  have hf1 := isF_abs (show isF av bv = true by have h := HZ.out s; rw [hab] at h; exact h)
                  have hf2 := isF_abs (show isF cv dv = true by have h := HZ.out u; rw [hcd] at h; exact h)
                  obtain ⟨X, hX⟩ : ∃ X, fN (av * cv) (bv * dv) = X := ⟨_, rfl⟩
                  obtain ⟨Y, hY⟩ : ∃ Y, fD (av * cv) (bv * dv) = Y := ⟨_, rfl⟩
                  obtain ⟨okw, hO⟩ : ∃ k, fOk (av * cv) (bv * dv) = k := ⟨_, rfl⟩
                  have HWx := Lib.hid (show hsW ys true (s, u) = if okw = true then some (X, Y) else none by unfold hsW; rw [if_pos rfl, hab, hcd, hX, hY, hO])
                  have HVs := Lib.hid (fun W (hW : Below wu.heap.size wu W) => by
                    have h := l01Value_c D N g1 0 cap ys hl s W (by have := hW.size; have := HWr.out.size; omega) (HT1.out.below (HWr.out.trans ((HBj.out.trans ((hbq.trans (hW.mono (by omega))).mono hzq)).mono HWr.out.size)) hb1)
                    rw [hab] at h
                    exact h)
                  have HVu := Lib.hid (fun W (hW : Below wu.heap.size wu W) => by
                    have h := l01Value_c D N g1 0 cap ys hl u W (by have := hW.size; have := HWr.out.size; omega) (HT1.out.below (HWr.out.trans ((HBj.out.trans ((hbq.trans (hW.mono (by omega))).mono hzq)).mono HWr.out.size)) hb1)
                    rw [hcd] at h
                    exact h)
                  have HTf := Lib.hid (fun W => by have h := l01TimesFrac_c av bv cv dv hf1.1 hf1.2.1 hf2.1 hf2.2.1 W; rw [hX, hY, hO] at h; exact h)
                  have KU := Lib.hid (show ∀ w', Below wu.heap.size wu w' → (w'.cell? ⟨w.heap.size, 0, none⟩ = some (.int .i64 D) ∧ w'.cell? ⟨w.heap.size, 1, none⟩ = some (.int .i64 N) ∧ w'.cell? ⟨w.heap.size, 2, none⟩ = some (.slice (some ⟨g1, 0, none⟩) ys.length cap) ∧ w'.cell? ⟨bw, i, none⟩ = some (.string s) ∧ w'.cell? ⟨bw, j, none⟩ = some (.string u)) from fun w' hb => ⟨(hb.cell (p := ⟨w.heap.size, 0, none⟩) hwu).trans y0, (hb.cell (p := ⟨w.heap.size, 1, none⟩) hwu).trans y1, (hb.cell (p := ⟨w.heap.size, 2, none⟩) hwu).trans y2, (hb.cell (p := ⟨bw, i, none⟩) hbu2).trans d1, (hb.cell (p := ⟨bw, j, none⟩) hbu2).trans d2⟩)
                  clear hbq hQ0 x0 x1 x2 c1 c2 y0 y1 y2 d1 d2 hab hcd hX hY hO hf1 hf2
                  go_cut [11, 12] (FrCutB wu X Y okw)
                  case first =>
                    go_region_held3 (fun w' => w'.cell? ⟨w.heap.size, 0, none⟩ = some (.int .i64 D) ∧ w'.cell? ⟨w.heap.size, 1, none⟩ = some (.int .i64 N) ∧ w'.cell? ⟨w.heap.size, 2, none⟩ = some (.slice (some ⟨g1, 0, none⟩) ys.length cap) ∧ w'.cell? ⟨bw, i, none⟩ = some (.string s) ∧ w'.cell? ⟨bw, j, none⟩ = some (.string u))
                      ((refine KU.out _ ?_; repeat' (first | with_reducible assumption | with_reducible exact Below.refl _ _ | (with_reducible refine Below.drew ?_) | (with_reducible refine Below.setCell ?_ (by (try dsimp only); omega) _) | (with_reducible refine Below.alloc ?_ (by (try simp only [World.size_setCell]); (try simp only [World.size_drew]); (try simp only [World.size_alloc]); (try simp only [World.size_setCell]); (try simp only [World.size_alloc]); omega) _))))
                      (first
                        | (go_at_call 14; (with_reducible refine (HVs.out _ ?_).mono ?_); (focus repeat' (first | with_reducible assumption | with_reducible exact Below.refl _ _ | (with_reducible refine Below.drew ?_) | (with_reducible refine Below.setCell ?_ (by (try dsimp only); omega) _) | (with_reducible refine Below.alloc ?_ (by (try simp only [World.size_setCell]); (try simp only [World.size_drew]); (try simp only [World.size_alloc]); (try simp only [World.size_setCell]); (try simp only [World.size_alloc]); omega) _))); rintro e w6 ⟨rfl, hb0⟩; have hbw6 : Below wu.heap.size wu w6 := below_step (by repeat' (first | with_reducible assumption | with_reducible exact Below.refl _ _ | (with_reducible refine Below.drew ?_) | (with_reducible refine Below.setCell ?_ (by (try dsimp only); omega) _) | (with_reducible refine Below.alloc ?_ (by (try simp only [World.size_setCell]); (try simp only [World.size_drew]); (try simp only [World.size_alloc]); (try simp only [World.size_setCell]); (try simp only [World.size_alloc]); omega) _))) hb0 (Nat.le_refl _); have hzw6 := hbw6.size; have hbw5w6 : Below w5.heap.size w5 w6 := below_step (by repeat' (first | with_reducible assumption | with_reducible exact Below.refl _ _ | (with_reducible refine Below.drew ?_) | (with_reducible refine Below.setCell ?_ (by (try dsimp only); omega) _) | (with_reducible refine Below.alloc ?_ (by (try simp only [World.size_setCell]); (try simp only [World.size_drew]); (try simp only [World.size_alloc]); (try simp only [World.size_setCell]); (try simp only [World.size_alloc]); omega) _))) hb0 (Nat.le_refl _); have hzw5w6 := hbw5w6.size; (try have B0 := B0.next hbw5w6); (try have B1 : Box2 w6 w5.heap.size 0 0 := Box2.next (by exact Box2.new w5 0 0 _) hb0))
                        | (go_at_call 14; (with_reducible refine (HVu.out _ ?_).mono ?_); (focus repeat' (first | with_reducible assumption | with_reducible exact Below.refl _ _ | (with_reducible refine Below.drew ?_) | (with_reducible refine Below.setCell ?_ (by (try dsimp only); omega) _) | (with_reducible refine Below.alloc ?_ (by (try simp only [World.size_setCell]); (try simp only [World.size_drew]); (try simp only [World.size_alloc]); (try simp only [World.size_setCell]); (try simp only [World.size_alloc]); omega) _))); rintro e w6 ⟨rfl, hb0⟩; have hbw6 : Below wu.heap.size wu w6 := below_step (by repeat' (first | with_reducible assumption | with_reducible exact Below.refl _ _ | (with_reducible refine Below.drew ?_) | (with_reducible refine Below.setCell ?_ (by (try dsimp only); omega) _) | (with_reducible refine Below.alloc ?_ (by (try simp only [World.size_setCell]); (try simp only [World.size_drew]); (try simp only [World.size_alloc]); (try simp only [World.size_setCell]); (try simp only [World.size_alloc]); omega) _))) hb0 (Nat.le_refl _); have hzw6 := hbw6.size; have hbw5w6 : Below w5.heap.size w5 w6 := below_step (by repeat' (first | with_reducible assumption | with_reducible exact Below.refl _ _ | (with_reducible refine Below.drew ?_) | (with_reducible refine Below.setCell ?_ (by (try dsimp only); omega) _) | (with_reducible refine Below.alloc ?_ (by (try simp only [World.size_setCell]); (try simp only [World.size_drew]); (try simp only [World.size_alloc]); (try simp only [World.size_setCell]); (try simp only [World.size_alloc]); omega) _))) hb0 (Nat.le_refl _); have hzw5w6 := hbw5w6.size; (try have B0 := B0.next hbw5w6); (try have B1 : Box2 w6 w5.heap.size 0 0 := Box2.next (by exact Box2.new w5 0 0 _) hb0))
                        | (go_at_call 14; (with_reducible refine (HVs.out _ ?_).mono ?_); (focus repeat' (first | with_reducible assumption | with_reducible exact Below.refl _ _ | (with_reducible refine Below.drew ?_) | (with_reducible refine Below.setCell ?_ (by (try dsimp only); omega) _) | (with_reducible refine Below.alloc ?_ (by (try simp only [World.size_setCell]); (try simp only [World.size_drew]); (try simp only [World.size_alloc]); (try simp only [World.size_setCell]); (try simp only [World.size_alloc]); omega) _))); rintro e w5 ⟨rfl, hb0⟩; have hbw5 : Below wu.heap.size wu w5 := below_step (by repeat' (first | with_reducible assumption | with_reducible exact Below.refl _ _ | (with_reducible refine Below.drew ?_) | (with_reducible refine Below.setCell ?_ (by (try dsimp only); omega) _) | (with_reducible refine Below.alloc ?_ (by (try simp only [World.size_setCell]); (try simp only [World.size_drew]); (try simp only [World.size_alloc]); (try simp only [World.size_setCell]); (try simp only [World.size_alloc]); omega) _))) hb0 (Nat.le_refl _); have hzw5 := hbw5.size; (try have B0 : Box2 w5 wu.heap.size 0 0 := Box2.next (by exact (Box2.new wu 0 0 _).drew) hb0))
                        | (go_at_call 14; (with_reducible refine (HVu.out _ ?_).mono ?_); (focus repeat' (first | with_reducible assumption | with_reducible exact Below.refl _ _ | (with_reducible refine Below.drew ?_) | (with_reducible refine Below.setCell ?_ (by (try dsimp only); omega) _) | (with_reducible refine Below.alloc ?_ (by (try simp only [World.size_setCell]); (try simp only [World.size_drew]); (try simp only [World.size_alloc]); (try simp only [World.size_setCell]); (try simp only [World.size_alloc]); omega) _))); rintro e w5 ⟨rfl, hb0⟩; have hbw5 : Below wu.heap.size wu w5 := below_step (by repeat' (first | with_reducible assumption | with_reducible exact Below.refl _ _ | (with_reducible refine Below.drew ?_) | (with_reducible refine Below.setCell ?_ (by (try dsimp only); omega) _) | (with_reducible refine Below.alloc ?_ (by (try simp only [World.size_setCell]); (try simp only [World.size_drew]); (try simp only [World.size_alloc]); (try simp only [World.size_setCell]); (try simp only [World.size_alloc]); omega) _))) hb0 (Nat.le_refl _); have hzw5 := hbw5.size; (try have B0 : Box2 w5 wu.heap.size 0 0 := Box2.next (by exact (Box2.new wu 0 0 _).drew) hb0))
                        | (go_at_call 34; (with_reducible refine (HTf.out _).mono ?_); rintro e w7 ⟨rfl, hb0⟩; have hbw7 : Below wu.heap.size wu w7 := below_step (by repeat' (first | with_reducible assumption | with_reducible exact Below.refl _ _ | (with_reducible refine Below.drew ?_) | (with_reducible refine Below.setCell ?_ (by (try dsimp only); omega) _) | (with_reducible refine Below.alloc ?_ (by (try simp only [World.size_setCell]); (try simp only [World.size_drew]); (try simp only [World.size_alloc]); (try simp only [World.size_setCell]); (try simp only [World.size_alloc]); omega) _))) hb0 (Nat.le_refl _); have hzw7 := hbw7.size; have hbw5w7 : Below w5.heap.size w5 w7 := below_step (by repeat' (first | with_reducible assumption | with_reducible exact Below.refl _ _ | (with_reducible refine Below.drew ?_) | (with_reducible refine Below.setCell ?_ (by (try dsimp only); omega) _) | (with_reducible refine Below.alloc ?_ (by (try simp only [World.size_setCell]); (try simp only [World.size_drew]); (try simp only [World.size_alloc]); (try simp only [World.size_setCell]); (try simp only [World.size_alloc]); omega) _))) hb0 (Nat.le_refl _); have hzw5w7 := hbw5w7.size; have hbw6w7 : Below w6.heap.size w6 w7 := below_step (by repeat' (first | with_reducible assumption | with_reducible exact Below.refl _ _ | (with_reducible refine Below.drew ?_) | (with_reducible refine Below.setCell ?_ (by (try dsimp only); omega) _) | (with_reducible refine Below.alloc ?_ (by (try simp only [World.size_setCell]); (try simp only [World.size_drew]); (try simp only [World.size_alloc]); (try simp only [World.size_setCell]); (try simp only [World.size_alloc]); omega) _))) hb0 (Nat.le_refl _); have hzw6w7 := hbw6w7.size; (try have B0 := B0.next hbw6w7); (try have B1 := B1.next hbw6w7); (try have B2 : Box2 w7 w6.heap.size 0 0 := Box2.next (by exact Box2.new w6 0 0 _) hb0); (try obtain ⟨Bz0, b00, b01, b02, b03⟩ := id B0); (try obtain ⟨Bz1, b10, b11, b12, b13⟩ := id B1); (try obtain ⟨Bz2, b20, b21, b22, b23⟩ := id B2))
                        | fail)
                    all_goals (go_wp2_with fail; go_meet)
                    all_goals (refine ⟨_, rfl, rfl, ?_, ?_, ?_⟩)
                    all_goals (first | (with_reducible assumption) | (with_reducible exact Nat.le_refl _) | ((repeat' (first | with_reducible assumption | with_reducible exact Below.refl _ _ | (with_reducible refine Below.drew ?_) | (with_reducible refine Below.setCell ?_ (by (try dsimp only); omega) _) | (with_reducible refine Below.alloc ?_ (by (try simp only [World.size_setCell]); (try simp only [World.size_drew]); (try simp only [World.size_alloc]); (try simp only [World.size_setCell]); (try simp only [World.size_alloc]); omega) _))); done) | ((repeat' (first | with_reducible assumption | (with_reducible refine Box2.newAt ?_; first | with_reducible rfl | (simp only [World.size_alloc]; done)) | (with_reducible refine Box2.fill ?_) | (with_reducible refine Box2.alloc ?_ _) | fail)); done) | omega | fail)
                  case rest =>
                    obtain ⟨g7, rfl, rfl, hg7, hb7, hX7⟩ := hcut
                    obtain ⟨w7, rfl⟩ : ∃ w7 : World, w7 = wc := ⟨_, rfl⟩
                    have hz7 := hb7.size
                    have hbq7 : Below wq.heap.size wq w7 := Hbq.out.trans (hb7.mono (by omega))
                    cases okw with
                    | false =>
                      have HF := Lib.hid (show (false, (3 : Int)) = o by rw [← HJ.out, HE.out, List.cons_append, hsL_none (hsAt_1 (by rw [HWx.out]; rfl))])
                      have HW8 := Lib.hid (HWr.out.trans ((HBj.out.trans (hbq7.mono (by omega))).mono HWr.out.size))
                      clear hb7 hX7 hbq7
                      go_wp2
                      go_ret2
                      rw [← HF.out]
                      exact ⟨rfl, HW8.out⟩
                    | true =>
                      have HWn := Lib.hid (show hsW ys true (s, u) = some (X, Y) by rw [HWx.out]; rfl)
                      have hQ7 := HQ.out.next hb7
                      have p0 := hX7.2.1
                      have p1 := hX7.2.2.1
                      obtain ⟨hqz, r0, r1, z0, z1⟩ := id hQ7
                      have HQv := Lib.hid (hQ7.store X Y)
                      have HBw := Lib.hid (Below.setCell (Below.setCell hbq7 (show wq.heap.size ≤ wq.heap.size from Nat.le_refl _) (.int .i64 X) : Below wq.heap.size wq (w7.setCell ⟨wq.heap.size, 0, none⟩ (.int .i64 X))) (show wq.heap.size ≤ wq.heap.size from Nat.le_refl _) (.int .i64 Y) : Below wq.heap.size wq ((w7.setCell ⟨wq.heap.size, 0, none⟩ (.int .i64 X)).setCell ⟨wq.heap.size, 1, none⟩ (.int .i64 Y)))
                      clear hb7 hX7 hbq7 hQ7
                      go_upto_region 19 with fail
                      have Q0 := HQv.out.2.1
                      have Q1 := HQv.out.2.2.1
                      have hzv := HQv.out.1
                      have hbqv := HBw.out
                      clear HQv HBw r0 r1 z0 z1 p0 p1
                      generalize ((w7.setCell ⟨wq.heap.size, 0, none⟩ (.int .i64 X)).setCell ⟨wq.heap.size, 1, none⟩ (.int .i64 Y)) = wv at *
                      obtain ⟨x0, x1, x2, c1, c2⟩ := HX.out
                      have y0 := (hbqv.cell (p := ⟨w.heap.size, 0, none⟩) hwz).trans x0
                      have y1 := (hbqv.cell (p := ⟨w.heap.size, 1, none⟩) hwz).trans x1
                      have y2 := (hbqv.cell (p := ⟨w.heap.size, 2, none⟩) hwz).trans x2
                      have d1 := (hbqv.cell (p := ⟨bw, i, none⟩) hbz).trans c1
                      have d2 := (hbqv.cell (p := ⟨bw, j, none⟩) hbz).trans c2
                      have hwv : w.heap.size < wv.heap.size := by omega
                      have hbv2 : bw < wv.heap.size := by omega
                      have HBv := Lib.hid (HBj.out.trans (hbqv.mono (by omega)))
                      have HA3 := Lib.hid (fun W (hW : Below wv.heap.size wv W) => HA2.out W (hbqv.trans (hW.mono (by omega))))
                      have KV := Lib.hid (show ∀ w', Below wv.heap.size wv w' → (w'.cell? ⟨w.heap.size, 0, none⟩ = some (.int .i64 D) ∧ w'.cell? ⟨w.heap.size, 1, none⟩ = some (.int .i64 N) ∧ w'.cell? ⟨w.heap.size, 2, none⟩ = some (.slice (some ⟨g1, 0, none⟩) ys.length cap) ∧ w'.cell? ⟨bw, i, none⟩ = some (.string s) ∧ w'.cell? ⟨bw, j, none⟩ = some (.string u)) from fun w' hb => ⟨(hb.cell (p := ⟨w.heap.size, 0, none⟩) hwv).trans y0, (hb.cell (p := ⟨w.heap.size, 1, none⟩) hwv).trans y1, (hb.cell (p := ⟨w.heap.size, 2, none⟩) hwv).trans y2, (hb.cell (p := ⟨bw, i, none⟩) hbv2).trans d1, (hb.cell (p := ⟨bw, j, none⟩) hbv2).trans d2⟩)
                      clear hbqv x0 x1 x2 c1 c2 y0 y1 y2 d1 d2
                      go_cut [13, 14] (FrCutB wv A Bq ok)
                      case first =>
                        go_region_held3 (fun w' => w'.cell? ⟨w.heap.size, 0, none⟩ = some (.int .i64 D) ∧ w'.cell? ⟨w.heap.size, 1, none⟩ = some (.int .i64 N) ∧ w'.cell? ⟨w.heap.size, 2, none⟩ = some (.slice (some ⟨g1, 0, none⟩) ys.length cap) ∧ w'.cell? ⟨bw, i, none⟩ = some (.string s) ∧ w'.cell? ⟨bw, j, none⟩ = some (.string u))
                          ((refine KV.out _ ?_; repeat' (first | with_reducible assumption | with_reducible exact Below.refl _ _ | (with_reducible refine Below.drew ?_) | (with_reducible refine Below.setCell ?_ (by (try dsimp only); omega) _) | (with_reducible refine Below.alloc ?_ (by (try simp only [World.size_setCell]); (try simp only [World.size_drew]); (try simp only [World.size_alloc]); (try simp only [World.size_setCell]); (try simp only [World.size_alloc]); omega) _))))
                          (first
                            | (go_at_call 35; (with_reducible refine (HA3.out _ ?_).mono ?_); (focus repeat' (first | with_reducible assumption | with_reducible exact Below.refl _ _ | (with_reducible refine Below.drew ?_) | (with_reducible refine Below.setCell ?_ (by (try dsimp only); omega) _) | (with_reducible refine Below.alloc ?_ (by (try simp only [World.size_setCell]); (try simp only [World.size_drew]); (try simp only [World.size_alloc]); (try simp only [World.size_setCell]); (try simp only [World.size_alloc]); omega) _))); rintro e w5 ⟨rfl, hb0⟩; have hbw5 : Below wv.heap.size wv w5 := below_step (by repeat' (first | with_reducible assumption | with_reducible exact Below.refl _ _ | (with_reducible refine Below.drew ?_) | (with_reducible refine Below.setCell ?_ (by (try dsimp only); omega) _) | (with_reducible refine Below.alloc ?_ (by (try simp only [World.size_setCell]); (try simp only [World.size_drew]); (try simp only [World.size_alloc]); (try simp only [World.size_setCell]); (try simp only [World.size_alloc]); omega) _))) hb0 (Nat.le_refl _); have hzw5 := hbw5.size; (try have B0 : Box2 w5 wv.heap.size 0 0 := Box2.next (by exact (Box2.new wv 0 0 _).drew) hb0); (try obtain ⟨Bz0, b00, b01, b02, b03⟩ := id B0))
                            | fail)
                        all_goals (go_wp2_with fail; go_meet)
                        all_goals (refine ⟨_, rfl, rfl, ?_, ?_, ?_⟩)
                        all_goals (first | (with_reducible assumption) | (with_reducible exact Nat.le_refl _) | ((repeat' (first | with_reducible assumption | with_reducible exact Below.refl _ _ | (with_reducible refine Below.drew ?_) | (with_reducible refine Below.setCell ?_ (by (try dsimp only); omega) _) | (with_reducible refine Below.alloc ?_ (by (try simp only [World.size_setCell]); (try simp only [World.size_drew]); (try simp only [World.size_alloc]); (try simp only [World.size_setCell]); (try simp only [World.size_alloc]); omega) _))); done) | ((repeat' (first | with_reducible assumption | (with_reducible refine Box2.newAt ?_; first | with_reducible rfl | (simp only [World.size_alloc]; done)) | (with_reducible refine Box2.fill ?_) | (with_reducible refine Box2.alloc ?_ _) | fail)); done) | omega | fail)
                      case rest =>
                        obtain ⟨g8, rfl, rfl, hg8, hb8, hX8⟩ := hcut
                        obtain ⟨w8, rfl⟩ : ∃ w8 : World, w8 = wc := ⟨_, rfl⟩
                        have hz8 := hb8.size
                        have p0 := hX8.2.1
                        have p1 := hX8.2.2.1
                        have v0 := (hb8.cell (p := ⟨wq.heap.size, 0, none⟩) (by show wq.heap.size < _; omega)).trans Q0
                        have v1 := (hb8.cell (p := ⟨wq.heap.size, 1, none⟩) (by show wq.heap.size < _; omega)).trans Q1
                        have HB8 := Lib.hid (HBv.out.trans (hb8.mono (by omega)))
                        have HW8 := Lib.hid (HWr.out.trans (HB8.out.mono HWr.out.size))
                        clear hb8 hX8 Q0 Q1
                        cases oq with
                        | none =>
                          have h := HPr.out
                          simp only [pairR, Prod.mk.injEq] at h
                          obtain ⟨rfl, rfl, rfl⟩ := h
                          have HF := Lib.hid (show (false, (3 : Int)) = o by rw [← HJ.out, HE.out, List.cons_append, hsL_none (hsAt_2 HWn.out HOq.out)])
                          go_wp2
                          go_ret2
                          rw [← HF.out]
                          exact ⟨rfl, HW8.out⟩
                        | some ab =>
                          obtain ⟨a', b'⟩ := ab
                          have h := HPr.out
                          simp only [pairR, Prod.mk.injEq] at h
                          obtain ⟨rfl, rfl, rfl⟩ := h
                          by_cases heq : a' = X ∧ b' = Y
                          · obtain ⟨rfl, rfl⟩ := heq
                            have HJ1 := Lib.hid (show hsL (hsAt ys D (hsW ys true)) (pqAt N (ws.drop (j + 1)) s ++ pqL N ws (ws.drop (i + 1))) = o by
                              rw [← HJ.out, HE.out, List.cons_append, hsL_yes]
                              rw [hsAt_3 HWn.out HOq.out]
                              simp)
                            go_wp2_with fail
                            go_roundw
                            case rel => exact ⟨j + 1, by omega, by go_num, HJ1.out, HB8.out⟩
                            case measure => simp [intOf]; omega
                          · have HF := Lib.hid (show (false, (0 : Int)) = o by
                              rw [← HJ.out, HE.out, List.cons_append, hsL_no]
                              rw [hsAt_3 HWn.out HOq.out]
                              simp only [Prod.mk.injEq, Option.some.injEq, decide_eq_false_iff_not]
                              exact heq)
                            have hne := heq
                            go_wp2
                            all_goals
                              go_ret2
                              rw [← HF.out]
                              exact ⟨rfl, HW8.out⟩
              · have hfI : (N : Int) < (s.size : Int) + (u.size : Int) := by omega
                have HE := Lib.hid (HPn.out hfit)
                have HJ1 := Lib.hid (show hsL (hsAt ys D (hsW ys true)) (pqAt N (ws.drop (j + 1)) s ++ pqL N ws (ws.drop (i + 1))) = o by rw [← HE.out]; exact HJ.out)
                go_wp2_with fail
                go_region
                all_goals
                  go_wp2
                  go_roundw
                  case rel => exact ⟨j + 1, by omega, by go_num, HJ1.out, HBj.out.drew⟩
                  case measure => simp [intOf]; omega
            · obtain rfl : j = ws.length := by omega
              have HE := Lib.hid (show hsL (hsAt ys D (hsW ys true)) (pqL N ws (ws.drop (i + 1))) = o by
                have h := HJ.out
                rw [pqAt_end (Nat.le_refl _), List.nil_append] at h
                exact h)
              clear x0 x1 x2 c1
              go_wp2
              go_roundw
              case rel => exact ⟨i + 1, by omega, by go_num, HE.out, HBj.out⟩
              case measure => simp [intOf]; omega
        · obtain rfl : i = ws.length := by omega
          have HE := Lib.hid (show (true, (0 : Int)) = o by
            have h := HI.out
            rw [pqL_end (Nat.le_refl _)] at h
            exact h)
          go_wp2
          go_ret2
          rw [← HE.out]
          exact ⟨rfl, HWr.out.trans (HB.out.mono HWr.out.size)⟩
end Go.Proofs.YtmcmbhnkkloknaaDoor
