/-
  Whether the values at the shuffles of all pairs of words are the wanted ones: contracts of the model's l03Holds.
-/
import Derived.Test.YtmcmbhnkkloknaaDoorHsM
import Derived.Test.YtmcmbhnkkloknaaDoorNew4
import Derived.Test.YtmcmbhnkkloknaaDoorMapV
import Derived.Deep.RegionHeld3
namespace Go.Proofs.YtmcmbhnkkloknaaDoor
open Go.RowKit
set_option linter.unusedVariables false

/-- what is wanted: the product of both values, or nought -/
def hsW (ys : List Tm) (pr : Bool) (p : Pq) : Option (Int × Int) :=
  if pr then (if fOk ((valL p.1.data.toList ys).1 * (valL p.2.data.toList ys).1) ((valL p.1.data.toList ys).2 * (valL p.2.data.toList ys).2) then some (fN ((valL p.1.data.toList ys).1 * (valL p.2.data.toList ys).1) ((valL p.1.data.toList ys).2 * (valL p.2.data.toList ys).2), fD ((valL p.1.data.toList ys).1 * (valL p.2.data.toList ys).1) ((valL p.1.data.toList ys).2 * (valL p.2.data.toList ys).2)) else none) else some (0, 1)
def HsPost (r : Bool × Int) (W : World) (e : Ending) (w' : World) : Prop := e = .returned (.tuple #[.bool r.1, .int .i64 r.2]) ∧ Below W.heap.size W w'
def hsR (ys : List Tm) (D N m : Nat) (pr : Bool) : Bool × Int := hsL (hsAt ys D (hsW ys pr)) (pqL N (upW D m) (upW D m))
set_option maxRecDepth 100000 in
set_option maxHeartbeats 16000000 in
theorem l03Holds_no (D N m : Nat) (hNm : m + 1 = N) (g1 cap : Nat) (ys : List Tm) (hl : ys.length ≤ 1048576) (hs2 : serB (D : Int) (N : Int) ys = true) (w : World) (hb1 : g1 < w.heap.size) (t1 : TermsIn w g1 0 ys) :
    Calls Tryd.prog 15 #[.agg #[.int .i64 D, .int .i64 N, .slice (some ⟨g1, 0, none⟩) ys.length cap], .bool false] w (HsPost (hsR ys D N m false) w) := by
  have hsh := shape_out (show shapeB (D : Int) (N : Int) = true from by have h := hs2; unfold serB at h; rw [Bool.and_eq_true] at h; exact h.1)
  have hfewm := allW_few (D := D) (by omega) (n := m) (by omega)
  have hlenm := upW_len D m
  have hmax : ∀ k, k ≤ m → (upW D k).length ≤ 1458 := fun k hk => by
    have h1 := allW_few (D := D) (by omega) (n := k) (by omega)
    have h2 := upW_len D k
    omega
  have HMax := Lib.hid hmax
  have HT1 := Lib.hid t1
  have HZ := Lib.hid (fun s => valL_isF hs2 s)
  have HAt := Lib.hid (fun v u (hvu : v.size + u.size ≤ 5) W hb ht => l03At_c D N g1 cap ys hl hs2 v u hvu W hb ht)
  obtain ⟨o, ho⟩ : ∃ o, hsR ys D N m false = o := ⟨_, rfl⟩
  rw [ho]
  have HOut := Lib.hid (show hsL (hsAt ys D (hsW ys false)) (pqL N (upW D m) (upW D m)) = o from ho)
  clear t1 hs2 ho hmax
  go_enter Tryd.func15, Tryd.ntmps15
  go_wp2_with fail
  go_loopw [6, 7] (fun v6 v7 wr => ∃ (k : Nat) (a : Option Addr) (l c : Nat), k ≤ m ∧ v7 = .int .i64 ((k : Int) + 1) ∧ v6 = .slice a l c ∧ l = (upW D k).length ∧ OwnS wr (w.heap.size + 1) (.slice a l c) (upW D k) ∧ Below (w.heap.size + 1) (w.alloc (.cells #[.int .i64 D, .int .i64 N, .slice (some ⟨g1, 0, none⟩) ys.length cap] 30)) wr) (fun _ v7 _ => N - (intOf v7).toNat)
  case atStart =>
    refine ⟨0, _, 0, 0, Nat.zero_le _, by first | rfl | (congr 1), rfl, rfl, ?_, ?_⟩
    · exact OwnS.emptyRow (by have h := heap_alloc_new (w.alloc (.cells #[.int .i64 D, .int .i64 N, .slice (some ⟨g1, 0, none⟩) ys.length cap] 30)) (.cells #[] 9); simpa using h) (Nat.le_refl _)
    · have h := below1 (w.alloc (.cells #[.int .i64 D, .int .i64 N, .slice (some ⟨g1, 0, none⟩) ys.length cap] 30)) (.cells #[] 9)
      rwa [World.size_alloc] at h
  case round =>
    obtain ⟨k, a, l, c, hk, rfl, rfl, hlk, hO, hB⟩ := hrel
    have HO := Lib.hid hO
    have HB := Lib.hid hB
    have HL := Lib.hid hlk
    have hz := hB.size
    simp only [World.size_alloc] at hz
    have hfew := HMax.out k hk
    have bc := bcellB hB
    have x0 : wr.cell? ⟨w.heap.size, 0, none⟩ = some (.int .i64 D) := (bc.1 _ _ (by omega)).trans (by go_simp)
    have x1 : wr.cell? ⟨w.heap.size, 1, none⟩ = some (.int .i64 N) := (bc.1 _ _ (by omega)).trans (by go_simp)
    have x2 : wr.cell? ⟨w.heap.size, 2, none⟩ = some (.slice (some ⟨g1, 0, none⟩) ys.length cap) := (bc.1 _ _ (by omega)).trans (by go_simp)
    clear hO hB hlk bc
    by_cases hlt : k < m
    · have hltI : (k : Int) + 1 < (N : Int) := by omega
      have HWd := Lib.hid (fun W => by
        have h := l01Words_c D (k + 1) (by omega) (by omega) W
        rw [show ((k + 1 : Nat) : Int) = (k : Int) + 1 by omega] at h
        exact h)
      have k1 : IntKind.i64.wrap ((k : Int) + 1 + 1) = (k : Int) + 1 + 1 := IntWalk.i64_in _ (by omega)
      go_wp2_with fail
      refine (HWd.out _).mono ?_
      rintro e w1 ⟨a1, c1, rfl, hb1, hN1⟩
      have hz1 := hb1.size
      have HB1 := Lib.hid (HB.out.trans (hb1.mono (by omega)))
      have HO1 := Lib.hid (HO.out.below hb1 (fun g h => (HO.out.lt g h).2))
      have HR1 := Lib.hid hN1.row
      have hfew1 := wordsL_few (d := D) (n := k + 1) (by omega) (by omega)
      clear hb1 hN1 x0 x1 x2
      go_wp2_with (at_builtin; refine wpList_append_strs rfl _ _ rfl (w.heap.size + 1) (.slice a l c) l (upW D k) (wordsL D (k + 1)) rfl HL.out HO1.out a1 _ c1 rfl rfl ?_ (by have := HL.out; omega) (by omega) ?_)
      · rcases HR1.out with h | ⟨b, o, h1, h2, h3⟩
        · exact .inl (by rw [h]; rfl)
        · exact .inr ⟨b, o, h1, h3⟩
      intro a2 c2 w2 hO2 hG2 _
      have HB2 := Lib.hid (HB1.out.trans (own_grownS HO1.out hG2 (by omega)))
      have HO2 := Lib.hid hO2
      clear hO2 hG2
      go_wp2
      go_roundw
      case rel => exact ⟨k + 1, a2, _, c2, by omega, by first | rfl | (congr 1; omega) | go_num, rfl, by rw [upW, List.length_append, HL.out], HO2.out, HB2.out⟩
      case measure => simp [intOf]; omega
    · obtain rfl : k = m := by omega
      have hge : ¬ (k : Int) + 1 < (N : Int) := by omega
      have HWr := Lib.hid ((below1 w _).trans (HB.out.mono (by omega)))
      obtain ⟨bw, hbw2, hrow⟩ : ∃ bw, bw < wr.heap.size ∧ ∀ i (h : i < (upW D k).length), a = some ⟨bw, 0, none⟩ ∧ wr.cell? ⟨bw, i, none⟩ = some (.string (upW D k)[i]) := by
        rcases HO.out.at_.2 with h | ⟨b, e1, h1, h2, hM, ht⟩
        · exact ⟨w.heap.size, by omega, fun i hi => by rw [h] at hi; simp at hi⟩
        · exact ⟨b, h2, fun i hi => ⟨e1, by have := ht i hi; rwa [Nat.zero_add] at this⟩⟩
      have HRow := Lib.hid hrow
      have HSz := Lib.hid (upW_size D k)
      have hll := HL.out
      subst hll
      have KX := Lib.hid (show ∀ w', Below wr.heap.size wr w' → (w'.cell? ⟨w.heap.size, 0, none⟩ = some (.int .i64 D) ∧ w'.cell? ⟨w.heap.size, 1, none⟩ = some (.int .i64 N) ∧ w'.cell? ⟨w.heap.size, 2, none⟩ = some (.slice (some ⟨g1, 0, none⟩) ys.length cap)) from fun w' hb => ⟨(hb.cell (p := ⟨w.heap.size, 0, none⟩) (by show w.heap.size < _; omega)).trans x0, (hb.cell (p := ⟨w.heap.size, 1, none⟩) (by show w.heap.size < _; omega)).trans x1, (hb.cell (p := ⟨w.heap.size, 2, none⟩) (by show w.heap.size < _; omega)).trans x2⟩)
      obtain ⟨w3, rfl⟩ : ∃ w3 : World, w3 = wr := ⟨_, rfl⟩
      clear HO HB hrow
      generalize upW D k = ws at HOut HRow HSz hfew ⊢
      go_wp2_with fail
      clear x0 x1 x2
      go_loopw [8] (fun v8 wr => ∃ i : Nat, i ≤ ws.length ∧ v8 = .int .i64 i ∧ hsL (hsAt ys D (hsW ys false)) (pqL N ws (ws.drop i)) = o ∧ Below w3.heap.size w3 wr) (fun v8 _ => ws.length - (intOf v8).toNat)
      case atStart => exact ⟨0, Nat.zero_le _, rfl, HOut.out, Below.refl _ _⟩
      case round =>
        obtain ⟨i, hi, rfl, hI, hB⟩ := hrel
        have HI := Lib.hid hI
        have HB := Lib.hid hB
        have hzr := hB.size
        clear hI hB
        by_cases hlt : i < ws.length
        · obtain ⟨rfl, c0⟩ := HRow.out i hlt
          have HNx := Lib.hid (pqL_next (n := N) (ws := ws) (vs := ws) hlt)
          have hsi := HSz.out _ (List.getElem_mem hlt)
          have HCi := Lib.hid c0
          clear c0
          obtain ⟨s, hs⟩ : ∃ s, ws[i] = s := ⟨_, rfl⟩
          rw [hs] at HNx hsi HCi
          have HI0 := Lib.hid (show hsL (hsAt ys D (hsW ys false)) (pqAt N (ws.drop 0) s ++ pqL N ws (ws.drop (i + 1))) = o by rw [← HNx.out]; exact HI.out)
          have hiI : (i : Int) < (ws.length : Int) := by omega
          clear hs
          go_wp2_with fail
          go_loopw [9] (fun v9 wq => ∃ j : Nat, j ≤ ws.length ∧ v9 = .int .i64 j ∧ hsL (hsAt ys D (hsW ys false)) (pqAt N (ws.drop j) s ++ pqL N ws (ws.drop (i + 1))) = o ∧ Below w3.heap.size w3 wq) (fun v9 _ => ws.length - (intOf v9).toNat)
          case atStart => exact ⟨0, Nat.zero_le _, rfl, HI0.out, HB.out⟩
          case round =>
            obtain ⟨j, hj, rfl, hJ, hBj⟩ := hrel
            obtain ⟨wq, rfl⟩ : ∃ wq : World, wq = wr := ⟨_, rfl⟩
            have HJ := Lib.hid hJ
            have HBj := Lib.hid hBj
            have hzq := hBj.size
            have c1 := (hBj.cell (p := ⟨bw, i, none⟩) hbw2).trans HCi.out
            obtain ⟨x0, x1, x2⟩ := KX.out wq hBj
            clear hJ hBj
            by_cases hlj : j < ws.length
            · obtain ⟨-, c0⟩ := HRow.out j hlj
              have c2 := (HBj.out.cell (p := ⟨bw, j, none⟩) hbw2).trans c0
              have hsj := HSz.out _ (List.getElem_mem hlj)
              have HPy := Lib.hid (fun h => pqAt_yes (n := N) (ws := ws) (v := s) hlj h)
              have HPn := Lib.hid (fun h => pqAt_no (n := N) (ws := ws) (v := s) hlj h)
              obtain ⟨u, hu⟩ : ∃ u, ws[j] = u := ⟨_, rfl⟩
              rw [hu] at c2 hsj HPy HPn
              have hjI : (j : Int) < (ws.length : Int) := by omega
              have hi0 : (0 : Int) ≤ (i : Int) := by omega
              have hj0 : (0 : Int) ≤ (j : Int) := by omega
              have hsum : IntKind.i64.wrap ((s.size : Int) + (u.size : Int)) = (s.size : Int) + (u.size : Int) := IntWalk.i64_in _ (by omega)
              have hwz : w.heap.size < wq.heap.size := by omega
              have hbz : bw < wq.heap.size := by omega
              clear hu c0
              by_cases hfit : s.size + u.size ≤ N
              · have hfI : ¬ (N : Int) < (s.size : Int) + (u.size : Int) := by omega
                have HE := Lib.hid (HPy.out hfit)
                obtain ⟨oq, hoq⟩ : ∃ oq, pairL ys (shL D s u) (0, 1) = oq := ⟨_, rfl⟩
                have HOq := Lib.hid hoq
                have HA := Lib.hid (fun W (hW : Below wq.heap.size wq W) => (hoq ▸ HAt.out s u (by omega) W (by have := hW.size; have := HWr.out.size; omega) (HT1.out.below (HWr.out.trans ((HBj.out.trans (hW.mono hzq)).mono HWr.out.size)) hb1) : Calls Tryd.prog 35 #[.agg #[.int .i64 D, .int .i64 N, .slice (some ⟨g1, 0, none⟩) ys.length cap], .string s, .string u] W (PairPost oq W)))
                obtain ⟨A, Bq, ok, hpr⟩ : ∃ A Bq ok, pairR oq = (A, Bq, ok) := ⟨_, _, _, rfl⟩
                have HA2 := Lib.hid (fun W hW => (HA.out W hW).mono (R' := fun e w' => e = .returned (.tuple #[.agg #[.int .i64 A, .int .i64 Bq], .bool ok]) ∧ Below W.heap.size W w') (fun e w' h => by unfold PairPost at h; rw [hpr] at h; exact h))
                have HPr := Lib.hid hpr
                clear hoq hpr HA
                go_wp2_with fail
                go_region
                all_goals
                  have hbq := (below1 wq (.cells #[.int .i64 0, .int .i64 1] 37)).drew
                  have hzv : wq.heap.size < (wq.alloc (.cells #[.int .i64 0, .int .i64 1] 37)).drew.heap.size := by show wq.heap.size < (wq.alloc _).heap.size; simp
                  have Q0 : (wq.alloc (.cells #[.int .i64 0, .int .i64 1] 37)).drew.cell? ⟨wq.heap.size, 0, none⟩ = some (.int .i64 0) := by go_simp
                  have Q1 : (wq.alloc (.cells #[.int .i64 0, .int .i64 1] 37)).drew.cell? ⟨wq.heap.size, 1, none⟩ = some (.int .i64 1) := by go_simp
                  have y0 := (hbq.cell (p := ⟨w.heap.size, 0, none⟩) hwz).trans x0
                  have y1 := (hbq.cell (p := ⟨w.heap.size, 1, none⟩) hwz).trans x1
                  have y2 := (hbq.cell (p := ⟨w.heap.size, 2, none⟩) hwz).trans x2
                  have d1 := (hbq.cell (p := ⟨bw, i, none⟩) hbz).trans c1
                  have d2 := (hbq.cell (p := ⟨bw, j, none⟩) hbz).trans c2
                  go_upto_region 19 with fail
                  generalize (wq.alloc (.cells #[.int .i64 0, .int .i64 1] 37)).drew = wv at *
                  have hwv : w.heap.size < wv.heap.size := by omega
                  have hbv2 : bw < wv.heap.size := by omega
                  have HBv := Lib.hid (HBj.out.trans (hbq.mono (by omega)))
                  have HWn := Lib.hid (show hsW ys false (s, u) = some (0, 1) from rfl)
                  have HA3 := Lib.hid (fun W (hW : Below wv.heap.size wv W) => HA2.out W (hbq.trans (hW.mono (by omega))))
                  have KV := Lib.hid (show ∀ w', Below wv.heap.size wv w' → (w'.cell? ⟨w.heap.size, 0, none⟩ = some (.int .i64 D) ∧ w'.cell? ⟨w.heap.size, 1, none⟩ = some (.int .i64 N) ∧ w'.cell? ⟨w.heap.size, 2, none⟩ = some (.slice (some ⟨g1, 0, none⟩) ys.length cap) ∧ w'.cell? ⟨bw, i, none⟩ = some (.string s) ∧ w'.cell? ⟨bw, j, none⟩ = some (.string u)) from fun w' hb => ⟨(hb.cell (p := ⟨w.heap.size, 0, none⟩) hwv).trans y0, (hb.cell (p := ⟨w.heap.size, 1, none⟩) hwv).trans y1, (hb.cell (p := ⟨w.heap.size, 2, none⟩) hwv).trans y2, (hb.cell (p := ⟨bw, i, none⟩) hbv2).trans d1, (hb.cell (p := ⟨bw, j, none⟩) hbv2).trans d2⟩)
                  clear hbq x0 x1 x2 c1 c2 y0 y1 y2 d1 d2
                  go_cut [13, 14] (FrCutB wv A Bq ok)
                  case first =>
                    go_region_held3 (fun w' => w'.cell? ⟨w.heap.size, 0, none⟩ = some (.int .i64 D) ∧ w'.cell? ⟨w.heap.size, 1, none⟩ = some (.int .i64 N) ∧ w'.cell? ⟨w.heap.size, 2, none⟩ = some (.slice (some ⟨g1, 0, none⟩) ys.length cap) ∧ w'.cell? ⟨bw, i, none⟩ = some (.string s) ∧ w'.cell? ⟨bw, j, none⟩ = some (.string u))
                      ((refine KV.out _ ?_; repeat' (first | with_reducible assumption | with_reducible exact Below.refl _ _ | (with_reducible refine Below.drew ?_) | (with_reducible refine Below.setCell ?_ (by (try dsimp only); omega) _) | (with_reducible refine Below.alloc ?_ (by (try simp only [World.size_setCell]); (try simp only [World.size_drew]); (try simp only [World.size_alloc]); (try simp only [World.size_setCell]); (try simp only [World.size_alloc]); omega) _))))
                      (first
                        | (go_at_call 35; (with_reducible refine (HA3.out _ ?_).mono ?_); (focus repeat' (first | with_reducible assumption | with_reducible exact Below.refl _ _ | (with_reducible refine Below.drew ?_) | (with_reducible refine Below.setCell ?_ (by (try dsimp only); omega) _) | (with_reducible refine Below.alloc ?_ (by (try simp only [World.size_setCell]); (try simp only [World.size_drew]); (try simp only [World.size_alloc]); (try simp only [World.size_setCell]); (try simp only [World.size_alloc]); omega) _))); rintro e w5 ⟨rfl, hb0⟩; have hbw5 : Below wv.heap.size wv w5 := below_step (by repeat' (first | with_reducible assumption | with_reducible exact Below.refl _ _ | (with_reducible refine Below.drew ?_) | (with_reducible refine Below.setCell ?_ (by (try dsimp only); omega) _) | (with_reducible refine Below.alloc ?_ (by (try simp only [World.size_setCell]); (try simp only [World.size_drew]); (try simp only [World.size_alloc]); (try simp only [World.size_setCell]); (try simp only [World.size_alloc]); omega) _))) hb0 (Nat.le_refl _); have hzw5 := hbw5.size; (try have B0 : Box2 w5 wv.heap.size 0 0 := Box2.next (by exact (Box2.new wv 0 0 _).drew) hb0); (try obtain ⟨Bz0, b00, b01, b02, b03⟩ := id B0))
                        | fail)
                    all_goals (go_wp2_with fail; go_meet)
                    all_goals (refine ⟨_, rfl, rfl, ?_, ?_, ?_⟩)
                    all_goals (first | (with_reducible assumption) | (with_reducible exact Nat.le_refl _) | ((repeat' (first | with_reducible assumption | with_reducible exact Below.refl _ _ | (with_reducible refine Below.drew ?_) | (with_reducible refine Below.setCell ?_ (by (try dsimp only); omega) _) | (with_reducible refine Below.alloc ?_ (by (try simp only [World.size_setCell]); (try simp only [World.size_drew]); (try simp only [World.size_alloc]); (try simp only [World.size_setCell]); (try simp only [World.size_alloc]); omega) _))); done) | ((repeat' (first | with_reducible assumption | (with_reducible refine Box2.newAt ?_; first | with_reducible rfl | (simp only [World.size_alloc]; done)) | (with_reducible refine Box2.fill ?_) | (with_reducible refine Box2.alloc ?_ _) | fail)); done) | omega | fail)
                  case rest =>
                    obtain ⟨g8, rfl, rfl, hg8, hb8, hX8⟩ := hcut
                    obtain ⟨w8, rfl⟩ : ∃ w8 : World, w8 = wc := ⟨_, rfl⟩
                    have hz8 := hb8.size
                    have p0 := hX8.2.1
                    have p1 := hX8.2.2.1
                    have v0 := (hb8.cell (p := ⟨wq.heap.size, 0, none⟩) (by show wq.heap.size < _; omega)).trans Q0
                    have v1 := (hb8.cell (p := ⟨wq.heap.size, 1, none⟩) (by show wq.heap.size < _; omega)).trans Q1
                    have HB8 := Lib.hid (HBv.out.trans (hb8.mono (by omega)))
                    have HW8 := Lib.hid (HWr.out.trans (HB8.out.mono HWr.out.size))
                    clear hb8 hX8 Q0 Q1
                    cases oq with
                    | none =>
                      have h := HPr.out
                      simp only [pairR, Prod.mk.injEq] at h
                      obtain ⟨rfl, rfl, rfl⟩ := h
                      have HF := Lib.hid (show (false, (3 : Int)) = o by rw [← HJ.out, HE.out, List.cons_append, hsL_none (hsAt_2 HWn.out HOq.out)])
                      go_wp2
                      go_ret2
                      rw [← HF.out]
                      exact ⟨rfl, HW8.out⟩
                    | some ab =>
                      obtain ⟨a', b'⟩ := ab
                      have h := HPr.out
                      simp only [pairR, Prod.mk.injEq] at h
                      obtain ⟨rfl, rfl, rfl⟩ := h
                      by_cases heq : a' = 0 ∧ b' = 1
                      · obtain ⟨rfl, rfl⟩ := heq
                        have HJ1 := Lib.hid (show hsL (hsAt ys D (hsW ys false)) (pqAt N (ws.drop (j + 1)) s ++ pqL N ws (ws.drop (i + 1))) = o by
                          rw [← HJ.out, HE.out, List.cons_append, hsL_yes]
                          rw [hsAt_3 HWn.out HOq.out]
                          simp)
                        go_wp2_with fail
                        go_roundw
                        case rel => exact ⟨j + 1, by omega, by go_num, HJ1.out, HB8.out⟩
                        case measure => simp [intOf]; omega
                      · have HF := Lib.hid (show (false, (0 : Int)) = o by
                          rw [← HJ.out, HE.out, List.cons_append, hsL_no]
                          rw [hsAt_3 HWn.out HOq.out]
                          simp only [Prod.mk.injEq, Option.some.injEq, decide_eq_false_iff_not]
                          exact heq)
                        have hne := heq
                        go_wp2
                        all_goals
                          go_ret2
                          rw [← HF.out]
                          exact ⟨rfl, HW8.out⟩
              · have hfI : (N : Int) < (s.size : Int) + (u.size : Int) := by omega
                have HE := Lib.hid (HPn.out hfit)
                have HJ1 := Lib.hid (show hsL (hsAt ys D (hsW ys false)) (pqAt N (ws.drop (j + 1)) s ++ pqL N ws (ws.drop (i + 1))) = o by rw [← HE.out]; exact HJ.out)
                go_wp2_with fail
                go_region
                all_goals
                  go_wp2
                  go_roundw
                  case rel => exact ⟨j + 1, by omega, by go_num, HJ1.out, HBj.out.drew⟩
                  case measure => simp [intOf]; omega
            · obtain rfl : j = ws.length := by omega
              have HE := Lib.hid (show hsL (hsAt ys D (hsW ys false)) (pqL N ws (ws.drop (i + 1))) = o by
                have h := HJ.out
                rw [pqAt_end (Nat.le_refl _), List.nil_append] at h
                exact h)
              clear x0 x1 x2 c1
              go_wp2
              go_roundw
              case rel => exact ⟨i + 1, by omega, by go_num, HE.out, HBj.out⟩
              case measure => simp [intOf]; omega
        · obtain rfl : i = ws.length := by omega
          have HE := Lib.hid (show (true, (0 : Int)) = o by
            have h := HI.out
            rw [pqL_end (Nat.le_refl _)] at h
            exact h)
          go_wp2
          go_ret2
          rw [← HE.out]
          exact ⟨rfl, HWr.out.trans (HB.out.mono HWr.out.size)⟩
end Go.Proofs.YtmcmbhnkkloknaaDoor
