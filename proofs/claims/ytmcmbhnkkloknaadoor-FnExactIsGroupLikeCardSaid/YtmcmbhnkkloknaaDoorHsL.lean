/-
  Whether the values at the shuffles of all pairs of words are the wanted ones: the contract of the program's hasAtShuffles, for whatever function says what is wanted.
  Contracts of IsLieSeries, of both sides.
-/
import Derived.Test.YtmcmbhnkkloknaaDoorHsS
import Derived.Test.YtmcmbhnkkloknaaDoorShU
import Derived.Test.YtmcmbhnkkloknaaDoorPrM
import Derived.Test.YtmcmbhnkkloknaaDoorConst
import Derived.WalkMore
namespace Go.Proofs.YtmcmbhnkkloknaaDoor
open Go.RowKit
set_option linter.unusedVariables false

def SpacePost2 (D N : Nat) (W : World) (e : Ending) (w' : World) : Prop :=
  ∃ (a : Option Addr) (cap : Nat), e = .returned (.agg #[.int .i64 D, .int .i64 N, .slice a (allW D N).length cap]) ∧ Below W.heap.size W w' ∧ NewS W.heap.size w'.heap.size w' a (allW D N) ∧ (allW D N).length ≤ cap
set_option maxRecDepth 100000 in
set_option maxHeartbeats 4000000 in
theorem spaceOf2_c (D N : Nat) (hD : 1 ≤ D ∧ D ≤ 3) (hN : N ≤ 5) (w : World) : Calls Tryd.prog 38 #[.int .i64 D, .int .i64 N] w (SpacePost2 D N w) := by
  go_enter Tryd.func38, Tryd.ntmps38
  go_wp2_with fail
  go_loopw [5, 11] (fun v vk wr => ∃ (k : Nat) (a : Option Addr) (l c : Nat), k ≤ N + 1 ∧ vk = .int .i64 k ∧ v = .slice a l c ∧ l = (upto D k).length ∧ OwnS wr (w.heap.size + 1) (.slice a l c) (upto D k) ∧ Below (w.heap.size + 1) (w.alloc (.cells #[.int .i64 0, .int .i64 0, .slice none 0 0] 70)) wr) (fun _ vk _ => N + 1 - (intOf vk).toNat)
  case atStart => exact ⟨0, none, 0, 0, Nat.zero_le _, rfl, rfl, rfl, OwnS.nil _ _, Below.refl _ _⟩
  case round =>
    obtain ⟨k, a, l, c, hk, rfl, rfl, hl, hO, hB⟩ := hrel
    have HO := Lib.hid hO
    have HB := Lib.hid hB
    have HL := Lib.hid hl
    have hz := hB.size
    simp only [World.size_alloc] at hz
    have hfew := upto_few (D := D) (k := k) hD.2 (by omega)
    clear hO hB hl
    by_cases hlt : k < N + 1
    · have hltI : (k : Int) < (N : Int) + 1 := by omega
      go_wp2_with fail
      refine (iWordsOf_3 D k _ hD (by omega)).mono ?_
      rintro e w1 ⟨a1, c1, rfl, hb1, hN1⟩
      have hz1 := hb1.size
      have HB1 := Lib.hid (HB.out.trans (hb1.mono (by omega)))
      have HO1 := Lib.hid (HO.out.below hb1 (fun g h => (HO.out.lt g h).2))
      have HR1 := Lib.hid hN1.row
      have hfew1 := wordsL_few (d := D) (n := k) hD.2 (by omega)
      clear hb1 hN1
      go_wp2_with (at_builtin; refine wpList_append_strs rfl _ _ rfl (w.heap.size + 1) (.slice a l c) l (upto D k) (wordsL D k) rfl HL.out HO1.out a1 _ c1 rfl rfl ?_ (by have := HL.out; omega) (by omega) ?_)
      · rcases HR1.out with h | ⟨b, o, h1, h2, h3⟩
        · exact .inl (by rw [h]; rfl)
        · exact .inr ⟨b, o, h1, h3⟩
      intro a2 c2 w2 hO2 hG2 _
      have HB2 := Lib.hid (HB1.out.trans (own_grownS HO1.out hG2 (by omega)))
      have HO2 := Lib.hid hO2
      clear hO2 hG2
      go_wp2
      go_roundw
      case rel => exact ⟨k + 1, a2, _, c2, by omega, by go_num, rfl, by rw [upto, List.length_append, HL.out], HO2.out, HB2.out⟩
      case measure => simp [intOf]; omega
    · obtain rfl : k = N + 1 := by omega
      have hge : ¬ ((N : Int) + 1) < (N : Int) + 1 := by omega
      have bc := bcellB HB.out
      have r0 : wr.cell? ⟨w.heap.size, 0, none⟩ = some (.int .i64 0) := (bc.1 _ _ (by omega)).trans (by go_simp)
      have r1 : wr.cell? ⟨w.heap.size, 1, none⟩ = some (.int .i64 0) := (bc.1 _ _ (by omega)).trans (by go_simp)
      have r2 : wr.cell? ⟨w.heap.size, 2, none⟩ = some (.slice none 0 0) := (bc.1 _ _ (by omega)).trans (by go_simp)
      have z0 : wr.frozen? ⟨w.heap.size, 0, none⟩ = false := (bc.2 _ _ (by omega)).trans (by go_simp)
      have z1 : wr.frozen? ⟨w.heap.size, 1, none⟩ = false := (bc.2 _ _ (by omega)).trans (by go_simp)
      have z2 : wr.frozen? ⟨w.heap.size, 2, none⟩ = false := (bc.2 _ _ (by omega)).trans (by go_simp)
      have HW := Lib.hid ((below1 w _).trans (HB.out.mono (by omega)))
      have hO := HO.out
      rw [upto_all] at hO
      obtain ⟨a', c', he, hle, -⟩ := hO.newS
      have hle2 : (allW D N).length ≤ c := by injection he with _ _ e3; omega
      have HLe := Lib.hid hle2
      clear he hle hle2
      have hNw := Lib.hid hO.at_.2
      have hlen := hO.at_.1
      subst hlen
      clear bc hO
      go_wp2
      refine bodyPost_ret (v := .agg #[.int .i64 D, .int .i64 N, .slice a (allW D N).length c]) (by simp [results, Tryd.results38, go_sem, r0, r1, r2]) rfl ⟨a, c, rfl, ?_, ?_, HLe.out⟩
      · have hW := HW.out
        go_grown
      · exact (((hNw.out.far (n := w.heap.size) (by omega)).far (by omega)).far (by omega)).mono (by omega) (by simp)
/-- what is wanted of a pair, said by a function's value -/
def WantAt (k : FuncId) (caps : Array Value) (f : Pq → Option (Int × Int)) (w : World) : Prop :=
  ∀ W, Below w.heap.size w W → ∀ v u : ByteArray, v.size ≤ 5 → u.size ≤ 5 → Calls Tryd.prog k (#[.string v, .string u] ++ caps) W (FracPost (pairC (f (v, u))) W)
set_option maxRecDepth 100000 in
set_option maxHeartbeats 16000000 in
theorem hasAt_c (D N : Nat) (g1 cap : Nat) (ys : List Tm) (hl : ys.length ≤ 1048576) (hs : ∀ i (h : i < ys.length), (ys[i]).s.size ≤ maxLen) (hs2 : serB (D : Int) (N : Int) ys = true) (kf : FuncId) (caps : Array Value) (hk : ∀ (args : Array Value) (W : World), (callFunc kf args).run Tryd.prog W = .ok (.enter kf args) W) (f : Pq → Option (Int × Int)) (w : World) (hb1 : g1 < w.heap.size) (t1 : TermsIn w g1 0 ys) (hf : WantAt kf caps f w) :
    Calls Tryd.prog 20 #[.agg #[.int .i64 D, .int .i64 N, .slice (some ⟨g1, 0, none⟩) ys.length cap], .func (.func kf) #[] caps] w (HsPost (hsL (hsAt ys D f) (pqL N (upW D N) (upW D N))) w) := by
  have hsh := shape_out (show shapeB (D : Int) (N : Int) = true from by have h := hs2; unfold serB at h; rw [Bool.and_eq_true] at h; exact h.1)
  have hfew := allW_few (D := D) (by omega) (n := N) (by omega)
  have hlen := upW_len D N
  have HT := Lib.hid t1
  have HS := Lib.hid hs
  have HF := Lib.hid hf
  have HAs := Lib.hid (fun v u (hvu : v.size + u.size ≤ 5) hv hu mb nb W hM => atShuffle_c D N ys hl hs2 v u hvu hv hu mb nb W hM)
  have HSz := Lib.hid (upW_size D N)
  have HB8 := Lib.hid (upW_B (D := D) (by omega) N)
  have HUp := Lib.hid (upW_up D N)
  have hfl : ∀ (x y z : Value) (W : World), (Instr.field 70 (.agg #[x, y, z]) 2).run Tryd.prog W = .ok z W := fun _ _ _ _ => by kernel_rfl
  obtain ⟨o, ho⟩ : ∃ o, hsL (hsAt ys D f) (pqL N (upW D N) (upW D N)) = o := ⟨_, rfl⟩
  rw [ho]
  have HOut := Lib.hid ho
  have HK := Lib.hid hk
  have HLen := Lib.hid hlen
  have HFew := Lib.hid hfew
  clear t1 hs hf hs2 ho hk hlen hfew
  go_enter Tryd.func20, Tryd.ntmps20
  go_wp2_with fail
  go_step3
  go_wp2_with fail
  refine (valuesOf_c D N (some ⟨g1, 0, none⟩) cap ys hl HS.out _ (.inr ⟨g1, 0, rfl, by simp; omega, HT.out.below (below1 w _) hb1⟩)).mono ?_
  rintro e w1 ⟨mb, rfl, hmb, hb2, hM⟩
  have hB := hb2
  simp only [World.size_alloc] at hB hmb
  have bc := bcellB hB
  have x0 : w1.cell? ⟨w.heap.size, 0, none⟩ = some (.int .i64 D) := (bc.1 _ _ (by omega)).trans (by go_simp)
  have x1 : w1.cell? ⟨w.heap.size, 1, none⟩ = some (.int .i64 N) := (bc.1 _ _ (by omega)).trans (by go_simp)
  have hz1 := hB.size
  simp only [World.size_alloc] at hz1
  have HW1 := Lib.hid ((below1 w (.cells #[.int .i64 D, .int .i64 N, .slice (some ⟨g1, 0, none⟩) ys.length cap] 30)).trans (hB.mono (by omega)))
  have hmb1 := hM.lt
  have HM1 := Lib.hid hM
  clear hb2 hB bc hM
  go_wp2_with fail
  refine (spaceOf2_c D N (by omega) (by omega) _).mono ?_
  rintro e w2 ⟨aS, cS, rfl, hb2, hN2, hcS⟩
  rcases hN2 with h | ⟨bS, rfl, hbS1, hbS2, hMS, hIS⟩
  · obtain ⟨r, hr, _⟩ := allW_head D N
    rw [hr] at h
    cases h
  have HM2 := Lib.hid (HM1.out.below hb2 hmb1)
  have HW2 := Lib.hid (HW1.out.trans (hb2.mono HW1.out.size))
  have X1 := (hb2.cell (p := ⟨w.heap.size, 1, none⟩) (by show w.heap.size < _; omega)).trans x1
  have hz2 := hb2.size
  have HRow := Lib.hid (show ∀ i (h : i < (upW D N).length), w2.cell? ⟨bS, 1 + i, none⟩ = some (.string (upW D N)[i]) from fun i h => by
    have h2 := hIS (i + 1) (by rw [allW_up]; simpa using h)
    rw [Nat.zero_add] at h2
    rw [Nat.add_comm 1 i, h2]
    congr 2
    simp [allW_up])
  have hlen := HLen.out
  have hfew := HFew.out
  clear HLen HFew
  have hnw : 1 ≤ (upW D N).length := by
    obtain ⟨m, rfl⟩ : ∃ m, N = m + 1 := ⟨N - 1, by omega⟩
    have h : 0 < D ^ (m + 1) := Nat.pow_pos (by omega)
    rw [upW, List.length_append, wordsL_length]
    omega
  rw [← hlen] at hcS
  rw [← hlen]
  have hnz : 1 ≤ (upW D N).length + 1 := by omega
  have hfewu : (upW D N).length ≤ 1458 := by omega
  clear x0 x1 hb2 hMS hIS hfew
  have hcS1 : 1 ≤ cS := by omega
  have hcS2 : ¬ cS - 1 = 0 := by omega
  have hcS3 : ¬ cS ≤ 1 := by omega
  generalize upW D N = us at HSz HB8 HUp HOut HRow hlen hnz hfewu hnw hcS ⊢
  clear hlen
  go_wp2_with fail
  go_step3
  go_wp2_with fail
  go_loopw [26] (fun v26 wr => ∃ i : Nat, i ≤ us.length ∧ v26 = .int .i64 i ∧ hsL (hsAt ys D f) (pqL N us (us.drop i)) = o ∧ Below w2.heap.size w2 wr) (fun v26 _ => us.length - (intOf v26).toNat)
  case atStart => exact ⟨0, Nat.zero_le _, rfl, HOut.out, Below.refl _ _⟩
  case round =>
    obtain ⟨i, hi, rfl, hI, hB⟩ := hrel
    have HI := Lib.hid hI
    have HB := Lib.hid hB
    have hzr := hB.size
    clear hI hB
    by_cases hlt : i < us.length
    · have hcI := HRow.out i hlt
      have c1 := (HB.out.cell (p := ⟨bS, 1 + i, none⟩) hbS2).trans hcI
      have HNx := Lib.hid (pqL_next (n := N) (ws := us) (vs := us) hlt)
      have hsi := HSz.out _ (List.getElem_mem hlt)
      have HBi := Lib.hid (HB8.out _ (List.getElem_mem hlt))
      clear hcI
      obtain ⟨s, hs⟩ : ∃ s, us[i] = s := ⟨_, rfl⟩
      rw [hs] at HNx hsi HBi c1
      have HI0 := Lib.hid (show hsL (hsAt ys D f) (pqAt N (us.drop 0) s ++ pqL N us (us.drop (i + 1))) = o by rw [← HNx.out]; exact HI.out)
      have hiI : (i : Int) < (us.length : Int) := by omega
      clear hs
      go_wp2_with fail
      clear c1
      go_loopw [32] (fun v32 wq => ∃ j : Nat, j ≤ us.length ∧ v32 = .int .i64 j ∧ hsL (hsAt ys D f) (pqAt N (us.drop j) s ++ pqL N us (us.drop (i + 1))) = o ∧ Below w2.heap.size w2 wq) (fun v32 _ => us.length - (intOf v32).toNat)
      case atStart => exact ⟨0, Nat.zero_le _, rfl, HI0.out, HB.out⟩
      case round =>
        obtain ⟨j, hj, rfl, hJ, hBj⟩ := hrel
        obtain ⟨wq, rfl⟩ : ∃ wq : World, wq = wr := ⟨_, rfl⟩
        have HJ := Lib.hid hJ
        have HBj := Lib.hid hBj
        have hzq := hBj.size
        have x1 := (hBj.cell (p := ⟨w.heap.size, 1, none⟩) (by show w.heap.size < _; omega)).trans X1
        clear hJ hBj
        by_cases hlj : j < us.length
        · have c2 := (HBj.out.cell (p := ⟨bS, 1 + j, none⟩) hbS2).trans (HRow.out j hlj)
          have hsj := HSz.out _ (List.getElem_mem hlj)
          have HBu := Lib.hid (HB8.out _ (List.getElem_mem hlj))
          have HPy := Lib.hid (fun h => pqAt_yes (n := N) (ws := us) (v := s) hlj h)
          have HPn := Lib.hid (fun h => pqAt_stop (n := N) HUp.out (v := s) hlj h)
          obtain ⟨u, hu⟩ : ∃ u, us[j] = u := ⟨_, rfl⟩
          rw [hu] at c2 hsj HBu HPy HPn
          have hjI : (j : Int) < (us.length : Int) := by omega
          have HWi := Lib.hid (fun W => areWithin_c (N : Int) s u (by omega) (by omega) W)
          clear hu
          by_cases hfit : s.size + u.size ≤ N
          · rw [show decide ((s.size : Int) + (u.size : Int) ≤ (N : Int)) = true from by simp; omega] at HWi
            have HE := Lib.hid (HPy.out hfit)
            rw [HE.out, List.cons_append] at HJ
            obtain ⟨r, hr⟩ : ∃ r, f (s, u) = r := ⟨_, rfl⟩
            obtain ⟨oq, hoq⟩ : ∃ oq, pairL ys (shL D s u) (0, 1) = oq := ⟨_, rfl⟩
            have HWt := Lib.hid (fun W hW => by
              have h := HF.out W hW s u (by omega) (by omega)
              rw [hr] at h
              exact h)
            have HAt := Lib.hid (fun W hM => by
              have h := HAs.out s u (by omega) HBi.out HBu.out mb ys.length W hM
              rw [hoq] at h
              exact h)
            have HRr := Lib.hid hr
            have HOq := Lib.hid hoq
            have HWq := Lib.hid (HW2.out.trans (HBj.out.mono HW2.out.size))
            have HMq := Lib.hid (HM2.out.below HBj.out (by omega))
            have hk := HK.out
            clear hr hoq
            go_wp2_with (first | (go_at_call 39; (with_reducible refine (HWi.out _).mono ?_); rintro e w' ⟨rfl, hww⟩; obtain rfl := hww.symm) | fail)
            refine (HWt.out _ HWq.out).mono ?_
            cases r with
            | none =>
              rintro e w5 ⟨rfl, hb5⟩
              have HFn := Lib.hid (show (false, (3 : Int)) = o by rw [← HJ.out, hsL_none (hsAt_1 HRr.out)])
              have HW5 := Lib.hid (HWq.out.trans (hb5.mono HWq.out.size))
              clear hb5 x1 c2
              simp only [pairC]
              go_wp2
              go_ret2
              rw [← HFn.out]
              exact ⟨rfl, HW5.out.trans ((below1 w5 _).mono HW5.out.size)⟩
            | some qq =>
              obtain ⟨q0, q1⟩ := qq
              rintro e w5 ⟨rfl, hb5⟩
              have HB5 := Lib.hid (HBj.out.trans (hb5.mono hzq))
              have HW5 := Lib.hid (HWq.out.trans (hb5.mono HWq.out.size))
              have HM5 := Lib.hid ((HMq.out.below hb5 (by omega)).alloc (.cells #[.int .i64 q0, .int .i64 q1] 37))
              have hz5 := hb5.size
              clear hb5 x1 c2
              simp only [pairC]
              go_wp2_with fail
              refine (HAt.out _ HM5.out).mono ?_
              cases oq with
              | none =>
                rintro e w6 ⟨rfl, hb6⟩
                have HFn := Lib.hid (show (false, (3 : Int)) = o by rw [← HJ.out, hsL_none (hsAt_2 HRr.out HOq.out)])
                have HW6 := Lib.hid (HW5.out.trans (((below1 w5 (.cells #[.int .i64 q0, .int .i64 q1] 37)).trans (hb6.mono (by simp))).mono HW5.out.size))
                clear hb6
                simp only [pairC]
                go_wp2
                go_ret2
                rw [← HFn.out]
                exact ⟨rfl, HW6.out.trans ((below1 w6 _).mono HW6.out.size)⟩
              | some ab =>
                obtain ⟨a', b'⟩ := ab
                rintro e w6 ⟨rfl, hb6⟩
                have hb56 := (below1 w5 (.cells #[.int .i64 q0, .int .i64 q1] 37)).trans (hb6.mono (by simp))
                have y0 : w6.cell? ⟨w5.heap.size, 0, none⟩ = some (.int .i64 q0) := (hb6.cell (p := ⟨w5.heap.size, 0, none⟩) (by simp)).trans (by go_simp)
                have y1 : w6.cell? ⟨w5.heap.size, 1, none⟩ = some (.int .i64 q1) := (hb6.cell (p := ⟨w5.heap.size, 1, none⟩) (by simp)).trans (by go_simp)
                have HB6 := Lib.hid (HB5.out.trans (hb56.mono (by omega)))
                have HW6 := Lib.hid (HW5.out.trans (hb56.mono HW5.out.size))
                have hz6 : w5.heap.size < w6.heap.size := by have := hb6.size; simp only [World.size_alloc] at this; omega
                clear hb6 hb56
                simp only [pairC]
                by_cases heq : a' = q0 ∧ b' = q1
                · obtain ⟨rfl, rfl⟩ := heq
                  have HJ1 := Lib.hid (show hsL (hsAt ys D f) (pqAt N (us.drop (j + 1)) s ++ pqL N us (us.drop (i + 1))) = o by
                    rw [← HJ.out, hsL_yes]
                    rw [hsAt_3 HRr.out HOq.out]
                    simp)
                  go_wp2_with fail
                  go_roundw
                  case rel => exact ⟨j + 1, by omega, by go_num, HJ1.out, HB6.out.alloc (by omega) _⟩
                  case measure => simp [intOf]; omega
                · have HFn := Lib.hid (show (false, (0 : Int)) = o by
                    rw [← HJ.out, hsL_no]
                    rw [hsAt_3 HRr.out HOq.out]
                    simp only [Prod.mk.injEq, Option.some.injEq, decide_eq_false_iff_not]
                    exact heq)
                  have hne := heq
                  go_wp2
                  all_goals
                    go_ret2
                    rw [← HFn.out]
                    exact ⟨rfl, HW6.out.trans ((below1 w6 _).mono HW6.out.size)⟩
          · rw [show decide ((s.size : Int) + (u.size : Int) ≤ (N : Int)) = false from by simp; omega] at HWi
            have HE := Lib.hid (show hsL (hsAt ys D f) (pqL N us (us.drop (i + 1))) = o by
              have h := HJ.out
              rw [HPn.out hfit, List.nil_append] at h
              exact h)
            go_wp2_with (first | (go_at_call 39; (with_reducible refine (HWi.out _).mono ?_); rintro e w' ⟨rfl, hww⟩; obtain rfl := hww.symm) | fail)
            exact ⟨⟨i + 1, by omega, by go_num, HE.out, HBj.out⟩, by simp [intOf]; omega⟩
        · obtain rfl : j = us.length := by omega
          have HE := Lib.hid (show hsL (hsAt ys D f) (pqL N us (us.drop (i + 1))) = o by
            have h := HJ.out
            rw [pqAt_end (Nat.le_refl _), List.nil_append] at h
            exact h)
          clear x1
          go_wp2
          go_roundw
          case rel => exact ⟨i + 1, by omega, by go_num, HE.out, HBj.out⟩
          case measure => simp [intOf]; omega
    · obtain rfl : i = us.length := by omega
      have HE := Lib.hid (show (true, (0 : Int)) = o by
        have h := HI.out
        rw [pqL_end (Nat.le_refl _)] at h
        exact h)
      go_wp2
      go_ret2
      rw [← HE.out]
      exact ⟨rfl, HW2.out.trans (HB.out.mono HW2.out.size)⟩
end Go.Proofs.YtmcmbhnkkloknaaDoor

namespace Go.Proofs.YtmcmbhnkkloknaaDoor
open Go.RowKit
set_option linter.unusedVariables false

theorem isF_null {d : Int} (h : isF 0 d = true) : d = 1 := by
  have h1 := isF_out h
  have h2 := h1.2.2.2.2
  unfold gi at h2
  rw [Int.gcd_zero_left] at h2
  omega
theorem val0_one {L V : Int} {ys : List Tm} (h : serB L V ys = true) (s : ByteArray) (h0 : (valL s.data.toList ys).1 = 0) : (valL s.data.toList ys).2 = 1 := by
  have h1 := valL_isF h s
  rw [h0] at h1
  exact isF_null h1
set_option maxRecDepth 100000 in
theorem wantNull_c (v u : ByteArray) (W : World) : Calls Tryd.prog 27 #[.string v, .string u] W (FracPost (0, 1, 0) W) := by
  go_enter Tryd.func27, Tryd.ntmps27
  go_wp2_with fail
  refine (iWhole_c 0 _).mono ?_
  rintro e w1 ⟨rfl, hb⟩
  have hB := hb
  simp only [World.size_alloc] at hB
  obtain ⟨hc, hf⟩ := bcellB hB
  have r0 : w1.cell? ⟨W.heap.size, 0, none⟩ = some (.int .i64 0) := (hc _ _ (by omega)).trans (by go_simp)
  have r1 : w1.cell? ⟨W.heap.size, 1, none⟩ = some (.int .i64 0) := (hc _ _ (by omega)).trans (by go_simp)
  have z0 : w1.frozen? ⟨W.heap.size, 0, none⟩ = false := (hf _ _ (by omega)).trans (by go_simp)
  have z1 : w1.frozen? ⟨W.heap.size, 1, none⟩ = false := (hf _ _ (by omega)).trans (by go_simp)
  have hW : Below W.heap.size W w1 := (below1 W _).trans (hb.mono (by simp))
  clear hb hB hc hf
  go_wp2
  exact bodyPost_ret (v := .tuple #[.agg #[.int .i64 0, .int .i64 1], .int .i64 0]) (by simp [results, Tryd.results27, go_sem, r0, r1]) rfl ⟨rfl, by go_grown⟩
section
variable (L V : Int) (g : Nat) (ys : List Tm) (hl : ys.length ≤ 1048576) (hs : ∀ i (h : i < ys.length), (ys[i]).s.size ≤ maxLen) (w : World) (hb : g < w.heap.size) (ht : TermsIn w g 0 ys)
include hl hs hb ht
set_option maxRecDepth 100000 in
theorem sLsr_1 (h1 : serB L V ys = false) : Calls Tryd.prog 10 #[.agg #[.int .i64 L, .int .i64 V, .slice (some ⟨g, 0, none⟩) ys.length ys.length]] w (HsPost (false, 1) w) := by
  have HT := Lib.hid ht
  have HS := Lib.hid hs
  have H1 := Lib.hid h1
  clear ht hs h1
  go_enter Tryd.func10, Tryd.ntmps10
  go_wp2_with fail
  refine (l01Is_c L V g 0 _ ys hl HS.out _ (by simp; omega) (HT.out.below (below1 w _) hb)).mono ?_
  rw [H1.out]
  rintro e w1 ⟨rfl, hb1⟩
  have hW : Below w.heap.size w w1 := (below1 w _).trans (hb1.mono (by simp))
  clear hb1
  go_wp2
  go_ret2
  exact ⟨rfl, hW⟩
set_option maxRecDepth 100000 in
theorem iLsr_1 (h1 : serB L V ys = false) : Calls Tryd.prog 11 #[.agg #[.int .i64 L, .int .i64 V, .slice (some ⟨g, 0, none⟩) ys.length ys.length]] w (HsPost (false, 1) w) := by
  have HT := Lib.hid ht
  have HS := Lib.hid hs
  have HC := Lib.hid (coef_1 (s := { data := #[] }) h1)
  clear ht hs h1
  go_enter Tryd.func11, Tryd.ntmps11
  go_wp2_with fail
  refine (iConst_c L V g 0 _ ys _ hl HS.out (by simp; omega) (HT.out.below (below1 w _) hb) 0 0 1 HC.out).mono ?_
  rintro e w1 ⟨rfl, hb1⟩
  have hW : Below w.heap.size w w1 := (below1 w _).trans (hb1.mono (by simp))
  clear hb1
  go_wp2
  go_ret2
  exact ⟨rfl, hW.trans ((below1 w1 _).mono hW.size)⟩
set_option maxRecDepth 100000 in
theorem sLsr_2 (h1 : serB L V ys = true) (h2 : (valL [] ys).1 ≠ 0) : Calls Tryd.prog 10 #[.agg #[.int .i64 L, .int .i64 V, .slice (some ⟨g, 0, none⟩) ys.length ys.length]] w (HsPost (false, 0) w) := by
  have HT := Lib.hid ht
  have HS := Lib.hid hs
  have H1 := Lib.hid h1
  have H2 := Lib.hid (show ((valL [] ys).1 == 0) = false by simpa using h2)
  clear ht hs h1 h2
  go_enter Tryd.func10, Tryd.ntmps10
  go_wp2_with fail
  refine (l01Is_c L V g 0 _ ys hl HS.out _ (by simp; omega) (HT.out.below (below1 w _) hb)).mono ?_
  rw [H1.out]
  rintro e w1 ⟨rfl, hb1⟩
  have hB := hb1
  simp only [World.size_alloc] at hB
  have bc := bcellB hB
  have x0 : w1.cell? ⟨w.heap.size, 0, none⟩ = some (.int .i64 L) := (bc.1 _ _ (by omega)).trans (by go_simp)
  have x1 : w1.cell? ⟨w.heap.size, 1, none⟩ = some (.int .i64 V) := (bc.1 _ _ (by omega)).trans (by go_simp)
  have x2 : w1.cell? ⟨w.heap.size, 2, none⟩ = some (.slice (some ⟨g, 0, none⟩) ys.length ys.length) := (bc.1 _ _ (by omega)).trans (by go_simp)
  have HW1 := Lib.hid ((below1 w (.cells #[.int .i64 L, .int .i64 V, .slice (some ⟨g, 0, none⟩) ys.length ys.length] 30)).trans (hb1.mono (by simp)))
  have hz1 := HW1.out.size
  clear hb1 hB bc
  go_wp2_with fail
  refine (l01Value_c L V g 0 _ ys hl ⟨#[]⟩ _ (by omega) (HT.out.below HW1.out hb)).mono ?_
  rintro e w2 ⟨rfl, hb2⟩
  have HW2 := Lib.hid (HW1.out.trans (hb2.mono hz1))
  clear hb2 x0 x1 x2
  go_wp2_with fail
  refine (l01Zero_c _ _ _).mono ?_
  rw [H2.out]
  rintro e w3 ⟨rfl, hb3⟩
  have hW3 := HW2.out.trans (hb3.mono HW2.out.size)
  clear hb3
  go_wp2
  go_ret2
  exact ⟨rfl, hW3⟩
set_option maxRecDepth 100000 in
theorem iLsr_2 (h1 : serB L V ys = true) (h2 : (valL [] ys).1 ≠ 0) : Calls Tryd.prog 11 #[.agg #[.int .i64 L, .int .i64 V, .slice (some ⟨g, 0, none⟩) ys.length ys.length]] w (HsPost (false, 0) w) := by
  have HT := Lib.hid ht
  have HS := Lib.hid hs
  have HC := Lib.hid (coef_3 h1 (const_ok h1))
  have H2 := Lib.hid (show ((valL [] ys).1 == 0 && (valL [] ys).2 == 1) = false by simp [h2])
  clear ht hs h1 h2
  go_enter Tryd.func11, Tryd.ntmps11
  go_wp2_with fail
  refine (iConst_c L V g 0 _ ys _ hl HS.out (by simp; omega) (HT.out.below (below1 w _) hb) (valL [] ys).1 (valL [] ys).2 0 HC.out).mono ?_
  rintro e w1 ⟨rfl, hb1⟩
  have HW1 := Lib.hid ((below1 w (.cells #[.int .i64 L, .int .i64 V, .slice (some ⟨g, 0, none⟩) ys.length ys.length] 30)).trans (hb1.mono (by simp)))
  clear hb1
  go_wp2_with fail
  refine (isZero_c _ _ _).mono ?_
  rw [H2.out]
  rintro e w2 ⟨rfl, hb2⟩
  have hW2 := HW1.out.trans (((below1 w1 (.cells #[.int .i64 (valL [] ys).1, .int .i64 (valL [] ys).2] 37)).trans (hb2.mono (by simp))).mono HW1.out.size)
  clear hb2
  go_wp2
  go_ret2
  exact ⟨rfl, hW2⟩
end
section
variable (D N m : Nat) (hNm : m + 1 = N) (g : Nat) (ys : List Tm) (hl : ys.length ≤ 1048576) (hs : ∀ i (h : i < ys.length), (ys[i]).s.size ≤ maxLen) (w : World) (hb : g < w.heap.size) (ht : TermsIn w g 0 ys)
include hNm hl hs hb ht
set_option maxRecDepth 100000 in
theorem sLsr_3 (h1 : serB (D : Int) (N : Int) ys = true) (h2 : (valL [] ys).1 = 0) : Calls Tryd.prog 10 #[.agg #[.int .i64 D, .int .i64 N, .slice (some ⟨g, 0, none⟩) ys.length ys.length]] w (HsPost (hsR ys D N m false) w) := by
  have HT := Lib.hid ht
  have HS := Lib.hid hs
  have H1 := Lib.hid h1
  have H2 := Lib.hid (show ((valL [] ys).1 == 0) = true by simpa using h2)
  clear ht hs h1 h2
  go_enter Tryd.func10, Tryd.ntmps10
  go_wp2_with fail
  refine (l01Is_c D N g 0 _ ys hl HS.out _ (by simp; omega) (HT.out.below (below1 w _) hb)).mono ?_
  rw [H1.out]
  rintro e w1 ⟨rfl, hb1⟩
  have hB := hb1
  simp only [World.size_alloc] at hB
  have bc := bcellB hB
  have x0 : w1.cell? ⟨w.heap.size, 0, none⟩ = some (.int .i64 D) := (bc.1 _ _ (by omega)).trans (by go_simp)
  have x1 : w1.cell? ⟨w.heap.size, 1, none⟩ = some (.int .i64 N) := (bc.1 _ _ (by omega)).trans (by go_simp)
  have x2 : w1.cell? ⟨w.heap.size, 2, none⟩ = some (.slice (some ⟨g, 0, none⟩) ys.length ys.length) := (bc.1 _ _ (by omega)).trans (by go_simp)
  have HW1 := Lib.hid ((below1 w (.cells #[.int .i64 D, .int .i64 N, .slice (some ⟨g, 0, none⟩) ys.length ys.length] 30)).trans (hb1.mono (by simp)))
  have hz1 := HW1.out.size
  have hzw : w.heap.size < w1.heap.size := by have := hB.size; simp only [World.size_alloc] at this; omega
  clear hb1 hB bc
  go_wp2_with fail
  refine (l01Value_c D N g 0 _ ys hl ⟨#[]⟩ _ (by omega) (HT.out.below HW1.out hb)).mono ?_
  rintro e w2 ⟨rfl, hb2⟩
  have HW2 := Lib.hid (HW1.out.trans (hb2.mono hz1))
  have x0 := (hb2.cell (p := ⟨w.heap.size, 0, none⟩) hzw).trans x0
  have x1 := (hb2.cell (p := ⟨w.heap.size, 1, none⟩) hzw).trans x1
  have x2 := (hb2.cell (p := ⟨w.heap.size, 2, none⟩) hzw).trans x2
  have hzw2 : w.heap.size < w2.heap.size := by have := hb2.size; omega
  clear hb2
  go_wp2_with fail
  refine (l01Zero_c _ _ _).mono ?_
  rw [H2.out]
  rintro e w3 ⟨rfl, hb3⟩
  have HW3 := Lib.hid (HW2.out.trans (hb3.mono HW2.out.size))
  have x0 := (hb3.cell (p := ⟨w.heap.size, 0, none⟩) hzw2).trans x0
  have x1 := (hb3.cell (p := ⟨w.heap.size, 1, none⟩) hzw2).trans x1
  have x2 := (hb3.cell (p := ⟨w.heap.size, 2, none⟩) hzw2).trans x2
  have hz3 := HW3.out.size
  clear hb3
  go_wp2_with fail
  refine (l03Holds_no D N m hNm g _ ys hl H1.out _ (by omega) (HT.out.below HW3.out hb)).mono ?_
  obtain ⟨⟨b, c⟩, hr⟩ : ∃ r, hsR ys D N m false = r := ⟨_, rfl⟩
  rw [hr]
  rintro e w4 ⟨rfl, hb4⟩
  have hW4 := HW3.out.trans (hb4.mono hz3)
  clear hb4 x0 x1 x2
  have hr := Lib.hid hr
  go_wp2
  go_ret2
  rw [hr.out]
  exact ⟨rfl, hW4⟩
set_option maxRecDepth 100000 in
theorem iLsr_3 (h1 : serB (D : Int) (N : Int) ys = true) (h2 : (valL [] ys).1 = 0) : Calls Tryd.prog 11 #[.agg #[.int .i64 D, .int .i64 N, .slice (some ⟨g, 0, none⟩) ys.length ys.length]] w (HsPost (hsR ys D N m false) w) := by
  have HT := Lib.hid ht
  have HS := Lib.hid hs
  have H1 := Lib.hid h1
  have HC := Lib.hid (coef_3 h1 (const_ok h1))
  have H2 := Lib.hid (show ((valL [] ys).1 == 0 && (valL [] ys).2 == 1) = true by
    have h := val0_one h1 ⟨#[]⟩ h2
    have h3 : (valL [] ys).2 = 1 := h
    rw [h2, h3]; rfl)
  have HR := Lib.hid (show hsL (hsAt ys D fun _ => some (0, 1)) (pqL N (upW D N) (upW D N)) = hsR ys D N m false by
    subst hNm
    rw [pqL_same]
    rfl)
  clear ht hs h1 h2
  go_enter Tryd.func11, Tryd.ntmps11
  go_wp2_with fail
  refine (iConst_c D N g 0 _ ys _ hl HS.out (by simp; omega) (HT.out.below (below1 w _) hb) (valL [] ys).1 (valL [] ys).2 0 HC.out).mono ?_
  rintro e w1 ⟨rfl, hb1⟩
  have hB := hb1
  simp only [World.size_alloc] at hB
  have bc := bcellB hB
  have x0 : w1.cell? ⟨w.heap.size, 0, none⟩ = some (.int .i64 D) := (bc.1 _ _ (by omega)).trans (by go_simp)
  have x1 : w1.cell? ⟨w.heap.size, 1, none⟩ = some (.int .i64 N) := (bc.1 _ _ (by omega)).trans (by go_simp)
  have x2 : w1.cell? ⟨w.heap.size, 2, none⟩ = some (.slice (some ⟨g, 0, none⟩) ys.length ys.length) := (bc.1 _ _ (by omega)).trans (by go_simp)
  have HW1 := Lib.hid ((below1 w (.cells #[.int .i64 D, .int .i64 N, .slice (some ⟨g, 0, none⟩) ys.length ys.length] 30)).trans (hb1.mono (by simp)))
  have hzw : w.heap.size < w1.heap.size := by have := hB.size; simp only [World.size_alloc] at this; omega
  clear hb1 hB bc
  go_wp2_with fail
  refine (isZero_c _ _ _).mono ?_
  rw [H2.out]
  rintro e w2 ⟨rfl, hb2⟩
  have hb12 := (below1 w1 (.cells #[.int .i64 (valL [] ys).1, .int .i64 (valL [] ys).2] 37)).trans (hb2.mono (by simp))
  have HW2 := Lib.hid (HW1.out.trans (hb12.mono HW1.out.size))
  have x0 := (hb12.cell (p := ⟨w.heap.size, 0, none⟩) hzw).trans x0
  have x1 := (hb12.cell (p := ⟨w.heap.size, 1, none⟩) hzw).trans x1
  have x2 := (hb12.cell (p := ⟨w.heap.size, 2, none⟩) hzw).trans x2
  have hz2 := hb12.size
  clear hb2 hb12
  go_wp2_with fail
  refine (hasAt_c D N g _ ys hl HS.out H1.out 27 #[] (fun _ _ => by kernel_rfl) (fun _ => some (0, 1)) _ (by omega) (HT.out.below HW2.out hb) (fun W hW v u _ _ => by simpa [pairC] using wantNull_c v u W)).mono ?_
  rw [HR.out]
  obtain ⟨⟨b, c⟩, hr⟩ : ∃ r, hsR ys D N m false = r := ⟨_, rfl⟩
  rw [hr]
  rintro e w4 ⟨rfl, hb4⟩
  have hW4 := HW2.out.trans (hb4.mono HW2.out.size)
  clear hb4 x0 x1 x2
  have hr := Lib.hid hr
  go_wp2
  go_ret2
  rw [hr.out]
  exact ⟨rfl, hW4⟩
end
end Go.Proofs.YtmcmbhnkkloknaaDoor
