/-
  The model's shuffle of two series: the words of the shuffles of their words are put in one by one.
-/
import Derived.Test.YtdgkkcjjfpenpaaGreatDoorShsC
import Derived.Test.YtdgkkcjjfpenpaaGreatDoorShuW
import Derived.Test.YtdgkkcjjfpenpaaGreatDoorAddL
import Derived.Test.YtdgkkcjjfpenpaaGreatDoorNew4
import Derived.Deep.RegionHeld3
import Derived.Deep.Light
namespace Go.Proofs.YtdgkkcjjfpenpaaGreatDoor
open Go.RowKit
set_option linter.unusedVariables false

/-- the words of a list, each with its number -/
def kL (v u : ByteArray) (l : List ByteArray) : List (ByteArray × Nat) := l.map fun s => (s, shN v.data.toList u.data.toList s.data.toList)
theorem kL_next {a b : Int} {v u : ByteArray} {l : List ByteArray} {j : Nat} (hj : j < l.length) (h : VF) : shK a b (kL v u (l.drop j)) h = (shStep a b h (l[j], shN v.data.toList u.data.toList (l[j]).data.toList)).bind (shK a b (kL v u (l.drop (j + 1)))) := by
  rw [List.drop_eq_getElem_cons hj]; rfl
theorem kL_end {a b : Int} {v u : ByteArray} {l : List ByteArray} {j : Nat} (hj : l.length ≤ j) (h : VF) : shK a b (kL v u (l.drop j)) h = some h := by
  rw [List.drop_eq_nil_of_le hj]; rfl
theorem shStep_no {a b : Int} {f : VF} {s : ByteArray} {n : Nat} (h : fOk (a * (n : Int)) (b * 1) = false) : shStep a b f (s, n) = none := by
  rw [shStep_put]
  simp only
  rw [Int.mul_comm (n : Int) a, Int.mul_comm 1 b, h]; rfl
theorem shStep_yes {a b : Int} {f : VF} {s : ByteArray} {n : Nat} (h : fOk (a * (n : Int)) (b * 1) = true) : shStep a b f (s, n) = putF f s (fN (a * (n : Int)) (b * 1)) (fD (a * (n : Int)) (b * 1)) := by
  rw [shStep_put]
  simp only
  rw [Int.mul_comm (n : Int) a, Int.mul_comm 1 b, h, if_pos rfl]
/-- a series in a box: the terms lie in a row of the call's own, or there are none -/
def OutS (D N B n : Nat) (W : World) (ts : List Tm) (wr : World) : Prop := ∃ (a : Option Addr) (c : Nat), ts.length ≤ c ∧ NewRow B wr.heap.size wr a ts ∧ Blk wr n 24 #[.int .i64 D, .int .i64 N, .slice a ts.length c] ∧ Below B W wr
theorem OutS.next {D N B n : Nat} {W wr w' : World} {ts : List Tm} (h : OutS D N B n W ts wr) (hb : Below wr.heap.size wr w') (hB : B ≤ wr.heap.size) : OutS D N B n W ts w' := by
  obtain ⟨a, c, h1, h2, h3, h4⟩ := h
  exact ⟨a, c, h1, (h2.below hb (Nat.le_refl _)).mono (Nat.le_refl _) hb.size, h3.below hb h3.lt, h4.trans (hb.mono hB)⟩
theorem OutS.below {D N B n : Nat} {W wr : World} {ts : List Tm} (h : OutS D N B n W ts wr) : Below B W wr := by
  obtain ⟨a, c, h1, h2, h3, h4⟩ := h
  exact h4
theorem OutS.lt {D N B n : Nat} {W wr : World} {ts : List Tm} (h : OutS D N B n W ts wr) : n < wr.heap.size := by
  obtain ⟨a, c, h1, h2, h3, h4⟩ := h
  exact h3.lt
theorem gr_box {w w' : World} {r g : Nat} {a b : Int} (h : Box2 w g a b) (hg : w.grownBy w' (some r)) (hne : g ≠ r) : Box2 w' g a b := by
  obtain ⟨h0, h1, h2, h3, h4⟩ := h
  have hk := hg.block g h0 (by intro e; injection e with e; exact hne e)
  exact ⟨Nat.lt_of_lt_of_le h0 hg.size, (by rw [← h1]; unfold World.cell?; simp only [hk]), (by rw [← h2]; unfold World.cell?; simp only [hk]), (by rw [← h3]; unfold World.frozen?; simp only [hk]), (by rw [← h4]; unfold World.frozen?; simp only [hk])⟩
theorem drewN_below (W : World) (m : Nat) : Below W.heap.size W (W.drewN m) := ⟨rfl, rfl, rfl, Nat.le_refl _, fun _ _ => rfl⟩
theorem timesF_c (x d y e : Int) (h1 : x.natAbs ≤ 1000000000 ∧ d.natAbs ≤ 1000000000 ∧ 1 ≤ d) (h2 : y.natAbs ≤ 1000000000 ∧ e.natAbs ≤ 1000000000 ∧ 1 ≤ e) : ∃ (X Y : Int) (ok : Bool), fN (x * y) (d * e) = X ∧ fD (x * y) (d * e) = Y ∧ fOk (x * y) (d * e) = ok ∧
    Hid (∀ W, Calls Tryz.prog 34 #[.agg #[.int .i64 x, .int .i64 d], .agg #[.int .i64 y, .int .i64 e]] W fun e w' => e = .returned (.tuple #[.agg #[.int .i64 X, .int .i64 Y], .bool ok]) ∧ Below W.heap.size W w') :=
  ⟨_, _, _, rfl, rfl, rfl, Lib.hid (fun W => l01TimesFrac_c x d y e h1.1 h1.2.1 h2.1 h2.2.1 W)⟩
theorem timesNum_c (X Y : Int) (num : Nat) (hp : X.natAbs ≤ 1000000000 ∧ Y.natAbs ≤ 1000000000 ∧ 1 ≤ Y) (hn : (num : Int) ≤ 256) : ∃ (X2 Y2 : Int) (ok : Bool), fN (X * (num : Int)) (Y * 1) = X2 ∧ fD (X * (num : Int)) (Y * 1) = Y2 ∧ fOk (X * (num : Int)) (Y * 1) = ok ∧
    Hid (∀ W, Calls Tryz.prog 34 #[.agg #[.int .i64 X, .int .i64 Y], .agg #[.int .i64 (num : Int), .int .i64 1]] W fun e w' => e = .returned (.tuple #[.agg #[.int .i64 X2, .int .i64 Y2], .bool ok]) ∧ Below W.heap.size W w') :=
  ⟨_, _, _, rfl, rfl, rfl, Lib.hid (fun W => l01TimesFrac_c X Y (num : Int) 1 hp.1 hp.2.1 (by omega) (by decide) W)⟩
set_option maxRecDepth 100000 in
set_option maxHeartbeats 8000000 in
theorem l03Shuffle_c (D N : Nat) (hD : 1 ≤ D ∧ D ≤ 3) (hN : N ≤ 5) (a1 a2 : Option Addr) (c1 c2 : Nat) (xs ys : List Tm) (hx : serB (D : Int) (N : Int) xs = true) (hy : serB (D : Int) (N : Int) ys = true) (hlx : xs.length ≤ 1048576) (hly : ys.length ≤ 1048576) (w : World) (t1 : Row w a1 xs) (t2 : Row w a2 ys) :
    Calls Tryz.prog 24 #[.agg #[.int .i64 D, .int .i64 N, .slice a1 xs.length c1], .agg #[.int .i64 D, .int .i64 N, .slice a2 ys.length c2], .bool false] w (SumPost D N ((shAll D N ys xs (fun _ => none)).map fun h => termsOf h (allW D N)) w) := by
  have HFx := Lib.hid (ser_fr hx)
  have HFy := Lib.hid (ser_fr hy)
  have HWx := Lib.hid (ser_wordB hx)
  have HWy := Lib.hid (ser_wordB hy)
  obtain ⟨o, ho⟩ : ∃ o, shAll D N ys xs (fun _ => none) = o := ⟨_, rfl⟩
  rw [ho]
  have HO := Lib.hid (show shAll D N ys (xs.drop 0) (fun _ => none) = o from ho)
  have HT1 := Lib.hid t1
  have HT2 := Lib.hid t2
  have HAs := Lib.hid (allW_asc hD.2 N)
  have hfew := allW_few (D := D) hD.2 (n := N) hN
  generalize hws : allW D N = ws at *
  have HWs := Lib.hid hws
  clear hws
  clear hx hy ho t1 t2
  go_enter Tryz.func24, Tryz.ntmps24
  go_wp2_with fail
  refine (l01Empty_c D N _ rfl _).mono ?_
  rintro e w1 ⟨g1, rfl, hO, hb1⟩
  obtain ⟨w3, hw3⟩ : ∃ w3, (((w.alloc (.cells #[.int .i64 D, .int .i64 N, .slice a1 xs.length c1] 24)).alloc (.cells #[.int .i64 D, .int .i64 N, .slice a2 ys.length c2] 24)).alloc (.cells #[.int .i64 0, .int .i64 0, .slice none 0 0] 24)) = w3 := ⟨_, rfl⟩
  have hb1' : Below (w.heap.size + 1 + 1 + 1) w3 w1 := by rw [← hw3]; simpa using hb1
  have hz3 : w3.heap.size = w.heap.size + 1 + 1 + 1 := by rw [← hw3]; simp
  have hz1 : w.heap.size + 1 + 1 + 1 ≤ w1.heap.size := by have := hb1'.size; omega
  have HW3 := Lib.hid (show Below w.heap.size w w3 from by rw [← hw3]; exact below3 w _ _ _)
  have HC := Lib.hid (show ∀ wr, Below (w.heap.size + 1 + 1 + 1) w3 wr → wr.cell? ⟨w.heap.size, 0, none⟩ = some (.int .i64 D) ∧ wr.cell? ⟨w.heap.size, 1, none⟩ = some (.int .i64 N) ∧ wr.cell? ⟨w.heap.size, 2, none⟩ = some (.slice a1 xs.length c1) ∧ wr.cell? ⟨w.heap.size + 1, 2, none⟩ = some (.slice a2 ys.length c2) from fun wr hg =>
    ⟨(hg.cell (p := ⟨w.heap.size, 0, none⟩) (by go_light; show w.heap.size < _; omega)).trans (by subst hw3; go_simp), (hg.cell (p := ⟨w.heap.size, 1, none⟩) (by go_light; show w.heap.size < _; omega)).trans (by subst hw3; go_simp), (hg.cell (p := ⟨w.heap.size, 2, none⟩) (by go_light; show w.heap.size < _; omega)).trans (by subst hw3; go_simp), (hg.cell (p := ⟨w.heap.size + 1, 2, none⟩) (by go_light; show w.heap.size + 1 < _; omega)).trans (by subst hw3; go_simp)⟩)
  have HZ := Lib.hid (show ∀ wr, Below (w.heap.size + 1 + 1 + 1) w3 wr → Z3 wr (w.heap.size + 1 + 1) from fun wr hg => by
    have h : Z3 w3 (w.heap.size + 1 + 1) := by rw [← hw3]; have h := Z3.new ((w.alloc (.cells #[.int .i64 D, .int .i64 N, .slice a1 xs.length c1] 24)).alloc (.cells #[.int .i64 D, .int .i64 N, .slice a2 ys.length c2] 24)) 24; simpa using h
    exact h.below hg (by go_light; omega))
  have HX := Lib.hid (show ∀ wr, Below (w.heap.size + 1 + 1 + 1) w3 wr → ∀ i (h : i < xs.length), ∃ b off, a1 = some ⟨b, off, none⟩ ∧ b < w.heap.size ∧ wr.cell? ⟨b, off + i * 3, none⟩ = some (.string (xs[i]).s) ∧ wr.cell? ⟨b, off + i * 3 + 1, none⟩ = some (.int .i64 (xs[i]).n) ∧ wr.cell? ⟨b, off + i * 3 + 2, none⟩ = some (.int .i64 (xs[i]).d) from fun wr hg i hi => by
    rcases HT1.out with h | ⟨b, off, h1, h2, h3⟩
    · rw [h] at hi; simp at hi
    · obtain ⟨q0, q1, q2⟩ := h3.below (HW3.out.trans (hg.mono (by go_light; omega))) h2 i hi
      exact ⟨b, off, h1, h2, q0, q1, q2⟩)
  have HY := Lib.hid (show ∀ wr, Below (w.heap.size + 1 + 1 + 1) w3 wr → ∀ i (h : i < ys.length), ∃ b off, a2 = some ⟨b, off, none⟩ ∧ b < w.heap.size ∧ wr.cell? ⟨b, off + i * 3, none⟩ = some (.string (ys[i]).s) ∧ wr.cell? ⟨b, off + i * 3 + 1, none⟩ = some (.int .i64 (ys[i]).n) ∧ wr.cell? ⟨b, off + i * 3 + 2, none⟩ = some (.int .i64 (ys[i]).d) from fun wr hg i hi => by
    rcases HT2.out with h | ⟨b, off, h1, h2, h3⟩
    · rw [h] at hi; simp at hi
    · obtain ⟨q0, q1, q2⟩ := h3.below (HW3.out.trans (hg.mono (by go_light; omega))) h2 i hi
      exact ⟨b, off, h1, h2, q0, q1, q2⟩)
  have HS0 := Lib.hid (show OutS D N (w.heap.size + 1 + 1 + 1) w1.heap.size w3 (termsOf (fun _ => none) ws) (w1.alloc (.cells #[.int .i64 D, .int .i64 N, .slice (some ⟨g1, 0, none⟩) 0 0] 24)) from by
    have e : termsOf (fun _ => none) ws = [] := List.filterMap_eq_nil_iff.2 (fun s _ => rfl)
    rw [e]
    exact ⟨some ⟨g1, 0, none⟩, 0, Nat.le_refl _, .inl rfl, Blk.new w1 _ _, hb1'.alloc hz1 _⟩)
  clear hb1 hO hw3 hz3
  go_wp2_with fail
  go_loopw [9] (fun v9 wr => ∃ (i : Nat) (h : VF), i ≤ xs.length ∧ v9 = .int .i64 i ∧ shAll D N ys (xs.drop i) h = o ∧ GoodV ws h ∧ OutS D N (w.heap.size + 1 + 1 + 1) w1.heap.size w3 (termsOf h ws) wr) (fun v9 _ => xs.length - (intOf v9).toNat)
  case atStart => exact ⟨0, _, Nat.zero_le _, rfl, HO.out, GoodV.none _, HS0.out⟩
  case round =>
    obtain ⟨i, h, hi, rfl, hO, hG, hS⟩ := hrel
    obtain ⟨wo, rfl⟩ : ∃ wo : World, wo = wr := ⟨_, rfl⟩
    obtain ⟨x0, x1, x2, y2⟩ := HC.out wo hS.below
    have HO := Lib.hid hO
    have HG := Lib.hid hG
    have HS := Lib.hid hS
    have hzo := hS.lt
    clear hO hG hS
    by_cases hlt : i < xs.length
    · have hltI : (i : Int) < (xs.length : Int) := by go_light; omega
      have hi0 : (0 : Int) ≤ (i : Int) := by go_light; omega
      have hk1 : IntKind.i64.wrap ((i : Int) + 1) = (i : Int) + 1 := IntWalk.i64_in _ (by go_light; omega)
      have HFs := Lib.hid (isF_abs (HFx.out _ (List.getElem_mem hlt)))
      have HWs1 := Lib.hid (HWx.out _ (List.getElem_mem hlt))
      have HNx := Lib.hid (shAll_next (D := D) (N := N) (ys := ys) hlt h)
      have HXi := Lib.hid (fun (wr : World) (hg : Below (w.heap.size + 1 + 1 + 1) w3 wr) => HX.out wr hg i hlt)
      obtain ⟨bx, ox, hax, hbx, _, _, _⟩ := HXi.out wo HS.out.below
      subst hax
      have HXj := Lib.hid (fun (wr : World) (hg : Below (w.heap.size + 1 + 1 + 1) w3 wr) => (show wr.cell? ⟨bx, ox + i * 3, none⟩ = some (.string (xs[i]).s) ∧ wr.cell? ⟨bx, ox + i * 3 + 1, none⟩ = some (.int .i64 (xs[i]).n) ∧ wr.cell? ⟨bx, ox + i * 3 + 2, none⟩ = some (.int .i64 (xs[i]).d) from by
        obtain ⟨b', o', e, _, q0, q1, q2⟩ := HXi.out wr hg
        injection e with e
        injection e with e1 e2
        subst e1 e2
        exact ⟨q0, q1, q2⟩))
      clear HXi
      obtain ⟨s, hs⟩ : ∃ s, xs[i] = s := ⟨_, rfl⟩
      rw [hs] at HFs HWs1 HNx HXj
      obtain ⟨ss, x, d⟩ := s
      have HJ0 := Lib.hid (show (shRow D N ⟨ss, x, d⟩ (ys.drop 0) h).bind (shAll D N ys (xs.drop (i + 1))) = o by rw [← HNx.out]; exact HO.out)
      clear hs
      go_wp2_with fail
      go_loopw [10] (fun v10 wq => ∃ (j : Nat) (h' : VF), j ≤ ys.length ∧ v10 = .int .i64 j ∧ (shRow D N ⟨ss, x, d⟩ (ys.drop j) h').bind (shAll D N ys (xs.drop (i + 1))) = o ∧ GoodV ws h' ∧ OutS D N (w.heap.size + 1 + 1 + 1) w1.heap.size w3 (termsOf h' ws) wq) (fun v10 _ => ys.length - (intOf v10).toNat)
      case atStart => exact ⟨0, h, Nat.zero_le _, rfl, HJ0.out, HG.out, HS.out⟩
      case round =>
        clear x0 x1 x2 y2
        obtain ⟨j, h', hj, rfl, hO', hG', hS'⟩ := hrel
        obtain ⟨wq, rfl⟩ : ∃ wq : World, wq = wr := ⟨_, rfl⟩
        obtain ⟨x0, x1, x2, y2⟩ := HC.out wq hS'.below
        have HO := Lib.hid hO'
        have HG := Lib.hid hG'
        have HS := Lib.hid hS'
        have hzq := hS'.lt
        clear hO' hG' hS'
        by_cases hlj : j < ys.length
        · have hjI : (j : Int) < (ys.length : Int) := by go_light; omega
          have hj0 : (0 : Int) ≤ (j : Int) := by go_light; omega
          have hj1 : IntKind.i64.wrap ((j : Int) + 1) = (j : Int) + 1 := IntWalk.i64_in _ (by go_light; omega)
          have HFt := Lib.hid (isF_abs (HFy.out _ (List.getElem_mem hlj)))
          have HWt := Lib.hid (HWy.out _ (List.getElem_mem hlj))
          have HNr := Lib.hid (shRow_next (D := D) (N := N) (s := ⟨ss, x, d⟩) hlj h')
          obtain ⟨by_, oy, hay, hby, d0, d1, d2⟩ := HY.out wq HS.out.below j hlj
          subst hay
          obtain ⟨q0, q1, q2⟩ := HXj.out wq HS.out.below
          obtain ⟨t, ht⟩ : ∃ t, ys[j] = t := ⟨_, rfl⟩
          rw [ht] at d0 d1 d2 HFt HWt HNr
          obtain ⟨ts, y, e⟩ := t
          simp only at q0 q1 q2 d0 d1 d2
          have hss := HWs1.out.2
          have hts := HWt.out.2
          try simp only at hss hts
          obtain ⟨X, Y, ok, hX, hY, hok, HTf⟩ := timesF_c x d y e HFs.out HFt.out
          have HX' := Lib.hid hX
          have HY' := Lib.hid hY
          have HOk := Lib.hid hok
          have hwz : w.heap.size < wq.heap.size := by go_light; omega
          have hwz1 : w.heap.size + 1 < wq.heap.size := by go_light; omega
          have hbxz : bx < wq.heap.size := by go_light; omega
          have hbyz : by_ < wq.heap.size := by go_light; omega
          clear ht hX hY hok
          go_wp2_with fail
          go_region
          all_goals
            have hbq : Below wq.heap.size wq wq.drew := (Below.refl _ _).drew
            have HSd := Lib.hid (HS.out.next hbq (by go_light; omega))
            go_upto_region 10 with fail
            have hzd : wq.heap.size ≤ wq.drew.heap.size := Nat.le_refl _
            generalize wq.drew = wu at *
            have KU := Lib.hid (show ∀ w', Below wu.heap.size wu w' → (w'.cell? ⟨w.heap.size, 2, none⟩ = some (.slice (some ⟨bx, ox, none⟩) xs.length c1) ∧ w'.cell? ⟨w.heap.size + 1, 2, none⟩ = some (.slice (some ⟨by_, oy, none⟩) ys.length c2) ∧ w'.cell? ⟨bx, ox + i * 3 + 1, none⟩ = some (.int .i64 x) ∧ w'.cell? ⟨bx, ox + i * 3 + 2, none⟩ = some (.int .i64 d) ∧ w'.cell? ⟨by_, oy + j * 3 + 1, none⟩ = some (.int .i64 y) ∧ w'.cell? ⟨by_, oy + j * 3 + 2, none⟩ = some (.int .i64 e)) from fun w' hb => by
              have hb2 := hbq.trans (hb.mono (by go_light; omega))
              exact ⟨(hb2.cell (p := ⟨w.heap.size, 2, none⟩) hwz).trans x2, (hb2.cell (p := ⟨w.heap.size + 1, 2, none⟩) hwz1).trans y2, (hb2.cell (p := ⟨bx, _, none⟩) hbxz).trans q1, (hb2.cell (p := ⟨bx, _, none⟩) hbxz).trans q2, (hb2.cell (p := ⟨by_, _, none⟩) hbyz).trans d1, (hb2.cell (p := ⟨by_, _, none⟩) hbyz).trans d2⟩)
            clear hbq x0 x1 x2 y2 q0 q1 q2 d0 d1 d2
            go_cut [13, 14] (FrCutB wu X Y ok)
            case first =>
              go_region_held3 (fun w' => w'.cell? ⟨w.heap.size, 2, none⟩ = some (.slice (some ⟨bx, ox, none⟩) xs.length c1) ∧ w'.cell? ⟨w.heap.size + 1, 2, none⟩ = some (.slice (some ⟨by_, oy, none⟩) ys.length c2) ∧ w'.cell? ⟨bx, ox + i * 3 + 1, none⟩ = some (.int .i64 x) ∧ w'.cell? ⟨bx, ox + i * 3 + 2, none⟩ = some (.int .i64 d) ∧ w'.cell? ⟨by_, oy + j * 3 + 1, none⟩ = some (.int .i64 y) ∧ w'.cell? ⟨by_, oy + j * 3 + 2, none⟩ = some (.int .i64 e))
                ((refine KU.out _ ?_; repeat' (first | with_reducible assumption | with_reducible exact Below.refl _ _ | (with_reducible refine Below.drew ?_) | (with_reducible refine Below.setCell ?_ (by (try dsimp only); omega) _) | (with_reducible refine Below.alloc ?_ (by (try simp only [World.size_setCell]); (try simp only [World.size_drew]); (try simp only [World.size_alloc]); (try simp only [World.size_setCell]); (try simp only [World.size_alloc]); omega) _))))
                (first
                  | (go_at_call 34; (with_reducible refine (HTf.out _).mono ?_); rintro e w5 ⟨rfl, hb0⟩; have hbw5 : Below wu.heap.size wu w5 := below_step (by repeat' (first | with_reducible assumption | with_reducible exact Below.refl _ _ | (with_reducible refine Below.drew ?_) | (with_reducible refine Below.setCell ?_ (by (try dsimp only); omega) _) | (with_reducible refine Below.alloc ?_ (by (try simp only [World.size_setCell]); (try simp only [World.size_drew]); (try simp only [World.size_alloc]); (try simp only [World.size_setCell]); (try simp only [World.size_alloc]); omega) _))) hb0 (Nat.le_refl _); have hzw5 := hbw5.size; (try have B0 : Box2 w5 wu.heap.size 0 0 := Box2.next (by exact (Box2.new wu 0 0 _).drew) hb0); (try obtain ⟨Bz0, b00, b01, b02, b03⟩ := id B0))
                  | fail)
              all_goals (go_wp2_with fail; go_meet)
              all_goals (refine ⟨_, rfl, rfl, ?_, ?_, ?_⟩)
              all_goals (first | (with_reducible assumption) | (with_reducible exact Nat.le_refl _) | ((repeat' (first | with_reducible assumption | with_reducible exact Below.refl _ _ | (with_reducible refine Below.drew ?_) | (with_reducible refine Below.setCell ?_ (by (try dsimp only); omega) _) | (with_reducible refine Below.alloc ?_ (by (try simp only [World.size_setCell]); (try simp only [World.size_drew]); (try simp only [World.size_alloc]); (try simp only [World.size_setCell]); (try simp only [World.size_alloc]); omega) _))); done) | ((repeat' (first | with_reducible assumption | (with_reducible refine Box2.newAt ?_; first | with_reducible rfl | (simp only [World.size_alloc]; done)) | (with_reducible refine Box2.fill ?_) | (with_reducible refine Box2.alloc ?_ _) | fail)); done) | omega | fail)
            case rest =>
              obtain ⟨g7, rfl, rfl, hg7, hb7, hX7⟩ := hcut
              obtain ⟨w7, rfl⟩ : ∃ w7 : World, w7 = wc := ⟨_, rfl⟩
              have hz7 := hb7.size
              have HS7 := Lib.hid (HSd.out.next hb7 (by go_light; omega))
              have HX7 := Lib.hid hX7
              have hn7 := hX7.1
              obtain ⟨x0, x1, x2, y2⟩ := HC.out w7 HS7.out.below
              clear hb7 hX7
              cases ok with
              | false =>
                have HE := Lib.hid (show none = o by rw [← HO.out, HNr.out, shPair_no (s := ⟨ss, x, d⟩) (t := ⟨ts, y, e⟩) HOk.out]; rfl)
                obtain ⟨ez, e0, e1, e2, r0, r1, r2⟩ := HZ.out w7 HS7.out.below
                have HB7 := Lib.hid (HW3.out.trans (HS7.out.below.mono (by go_light; omega)))
                repeat (first | go_values | go_skip | go_guarded | go_step | go_upon)
                rw [← HE.out]
                (try simp only [Exit.inBlock, Exit.then])
                refine bodyPost_ret (v := .tuple #[.agg #[.int .i64 0, .int .i64 0, .slice none 0 0], .bool false]) (by simp [results, Tryz.results24, go_sem, e0, e1, e2]) rfl ?_
                exact ⟨rfl, ((HB7.out.setCell (p := ⟨w.heap.size + 1 + 1, 0, none⟩) (by go_light; show _ ≤ w.heap.size + 1 + 1; omega) _).setCell (p := ⟨w.heap.size + 1 + 1, 1, none⟩) (by go_light; show _ ≤ w.heap.size + 1 + 1; omega) _).setCell (p := ⟨w.heap.size + 1 + 1, 2, none⟩) (by go_light; show _ ≤ w.heap.size + 1 + 1; omega) _⟩
              | true =>
                have hsum : IntKind.i64.wrap ((ss.size : Int) + (ts.size : Int)) = (ss.size : Int) + (ts.size : Int) := IntWalk.i64_in _ (by go_light; omega)
                have HFp := Lib.hid (isF_abs (show isF X Y = true by rw [← HX'.out, ← HY'.out]; exact fOk_isFp HOk.out))
                by_cases hfit : ss.size + ts.size ≤ N
                · have hfI : ¬ (N : Int) < (ss.size : Int) + (ts.size : Int) := by go_light; omega
                  have HWd := Lib.hid (fun W => l03Words_c D hD ss ts (by go_light; omega) W)
                  have HSw := Lib.hid (fun s (h : s ∈ (wordsL D (ss.size + ts.size)).filter (shP ss ts)) => (show s.size ≤ 8 ∧ 0 < shN ss.data.toList ts.data.toList s.data.toList ∧ s ∈ ws from by
                    have h1 := (List.mem_filter.1 h).1
                    have h2 := (List.mem_filter.1 h).2
                    have h3 := wordsL_size D _ s h1
                    unfold shP at h2
                    rw [decide_eq_true_eq] at h2
                    exact ⟨by omega, by omega, by rw [← HWs.out]; exact word_in hfit h1⟩))
                  have HE0 := Lib.hid (show ((shK X Y (kL ss ts (((wordsL D (ss.size + ts.size)).filter (shP ss ts)).drop 0)) h').bind (shRow D N ⟨ss, x, d⟩ (ys.drop (j + 1)))).bind (shAll D N ys (xs.drop (i + 1))) = o by
                    rw [← HO.out, HNr.out, shPair_in (s := ⟨ss, x, d⟩) (t := ⟨ts, y, e⟩) HOk.out hfit, HX'.out, HY'.out, eachL_is hD.2 HWs1.out.1 HWt.out.1]
                    rfl)
                  have hfwl := wordsL_few (d := D) (n := ss.size + ts.size) hD.2 (by go_light; omega)
                  have hwl : ((wordsL D (ss.size + ts.size)).filter (shP ss ts)).length ≤ 243 := Nat.le_trans (List.length_filter_le _ _) hfwl
                  have HNum := Lib.hid (fun (s : ByteArray) (hs : s.size ≤ 8) W => num_all s.size ss ts s rfl hs (by go_light; omega) (by go_light; omega) W)
                  generalize (wordsL D (ss.size + ts.size)).filter (shP ss ts) = wl at HWd HSw HE0 hwl
                  go_wp2_with fail
                  refine (HWd.out _).mono ?_
                  rintro e w8 ⟨aw, cw, rfl, hb8, hN8⟩
                  have hz8 := hb8.size
                  have HS8 := Lib.hid (HS7.out.next hb8 (by go_light; omega))
                  have HX8 := Lib.hid (HX7.out.next hb8)
                  have HNw := Lib.hid hN8
                  clear hb8 hN8 x0 x1 x2 y2
                  go_wp2_with fail
                  go_loopw [16] (fun v16 wz => ∃ (k : Nat) (h'' : VF), k ≤ wl.length ∧ v16 = .int .i64 k ∧ ((shK X Y (kL ss ts (wl.drop k)) h'').bind (shRow D N ⟨ss, x, d⟩ (ys.drop (j + 1)))).bind (shAll D N ys (xs.drop (i + 1))) = o ∧ GoodV ws h'' ∧ OutS D N (w.heap.size + 1 + 1 + 1) w1.heap.size w3 (termsOf h'' ws) wz ∧ w8.grownBy wz (some w1.heap.size)) (fun v16 _ => wl.length - (intOf v16).toNat)
                  case atStart => exact ⟨0, h', Nat.zero_le _, rfl, HE0.out, HG.out, HS8.out, ⟨rfl, rfl, rfl, Nat.le_refl _, fun _ _ _ => rfl⟩⟩
                  case round =>
                    obtain ⟨k, h'', hk, rfl, hO'', hG'', hS'', hgz⟩ := hrel
                    obtain ⟨wz, rfl⟩ : ∃ wz : World, wz = wr := ⟨_, rfl⟩
                    have HO2 := Lib.hid hO''
                    have HG2 := Lib.hid hG''
                    have HS2 := Lib.hid hS''
                    have HGz := Lib.hid hgz
                    have hzz := hgz.size
                    have hnz := hS''.lt
                    clear hO'' hG'' hS'' hgz
                    by_cases hlk : k < wl.length
                    · have hkI : (k : Int) < (wl.length : Int) := by go_light; omega
                      have hk0 : (0 : Int) ≤ (k : Int) := by go_light; omega
                      have hkn : IntKind.i64.wrap ((k : Int) + 1) = (k : Int) + 1 := IntWalk.i64_in _ (by go_light; omega)
                      rcases HNw.out with hh | ⟨bw, rfl, hbw1, hbw2, hMw, htw⟩
                      · rw [hh] at hlk; simp at hlk
                      have c0 := (gr_cell HGz.out hbw2 (by go_light; omega)).trans (htw k hlk)
                      rw [Nat.zero_add] at c0
                      obtain ⟨z8, p0, p1, _, _⟩ := gr_box HX8.out HGz.out (by go_light; omega)
                      obtain ⟨hs8, hspos, hsin⟩ := HSw.out _ (List.getElem_mem hlk)
                      have HKn := Lib.hid (kL_next (a := X) (b := Y) (v := ss) (u := ts) hlk h'')
                      obtain ⟨sw, hsw⟩ : ∃ sw, wl[k] = sw := ⟨_, rfl⟩
                      rw [hsw] at c0 hs8 hspos hsin HKn
                      have HNm := Lib.hid (fun W => HNum.out sw hs8 W)
                      have hnb := shN_b (v := ss.data.toList) (w := ts.data.toList) (u := sw.data.toList) (by have : sw.data.toList.length = sw.size := rfl; omega)
                      obtain ⟨num, hnum⟩ : ∃ num, shN ss.data.toList ts.data.toList sw.data.toList = num := ⟨_, rfl⟩
                      rw [hnum] at HNm hnb hspos HKn
                      have hne : ((num : Int) == 0) = false := by rw [beq_eq_false_iff_ne]; omega
                      have hbwz : bw < wz.heap.size := by go_light; omega
                      clear htw hsw hnum
                      go_wp2_with fail
                      refine (HNm.out _).mono ?_
                      rintro e w9 ⟨rfl, m9, rfl⟩
                      have hb9 := drewN_below wz m9
                      have HB9 := Lib.hid hb9
                      have hz9 : wz.heap.size ≤ (wz.drewN m9).heap.size := Nat.le_refl _
                      have HS9 := Lib.hid (HS2.out.next hb9 (by go_light; omega))
                      have HG9 := Lib.hid (gr_trans HGz.out (gr_below hb9))
                      have c9 := (hb9.cell (p := ⟨bw, k, none⟩) hbwz).trans c0
                      have p09 := (hb9.cell (p := ⟨g7, 0, none⟩) z8).trans p0
                      have p19 := (hb9.cell (p := ⟨g7, 1, none⟩) z8).trans p1
                      generalize wz.drewN m9 = w9 at *
                      clear hb9 c0 p0 p1
                      obtain ⟨X2, Y2, ok2, hX2, hY2, hok2, HTg⟩ := timesNum_c X Y num HFp.out hnb
                      have HX2 := Lib.hid hX2
                      have HY2 := Lib.hid hY2
                      have HOk2 := Lib.hid hok2
                      clear hX2 hY2 hok2
                      go_wp2_with fail
                      refine (HTg.out _).mono ?_
                      rintro e wa ⟨rfl, hba⟩
                      have hza := hba.size
                      cases ok2 with
                      | false =>
                        have HE := Lib.hid (show none = o by rw [← HO2.out, HKn.out, shStep_no HOk2.out]; rfl)
                        obtain ⟨wb, hwb⟩ : ∃ wb, wa.alloc (.cells #[.int .i64 X2, .int .i64 Y2] 44) = wb := ⟨_, rfl⟩
                        have hbb : Below w9.heap.size w9 wb := by rw [← hwb]; exact hba.alloc hza _
                        have HSb := Lib.hid (HS9.out.next hbb (by go_light; omega))
                        obtain ⟨ez, e0, e1, e2, r0, r1, r2⟩ := HZ.out wb HSb.out.below
                        have HBb := Lib.hid (HW3.out.trans (HSb.out.below.mono (by go_light; omega)))
                        clear hba
                        (try (simp only []; go_at_K))
                        repeat (first | go_values | go_skip | go_guarded | go_step | go_upon)
                        rw [← HE.out]
                        (try simp only [Exit.inBlock, Exit.then])
                        refine bodyPost_ret (v := .tuple #[.agg #[.int .i64 0, .int .i64 0, .slice none 0 0], .bool false]) (by simp [results, Tryz.results24, go_sem, e0, e1, e2]) rfl ?_
                        exact ⟨rfl, ((HBb.out.setCell (p := ⟨w.heap.size + 1 + 1, 0, none⟩) (by go_light; show _ ≤ w.heap.size + 1 + 1; omega) _).setCell (p := ⟨w.heap.size + 1 + 1, 1, none⟩) (by go_light; show _ ≤ w.heap.size + 1 + 1; omega) _).setCell (p := ⟨w.heap.size + 1 + 1, 2, none⟩) (by go_light; show _ ≤ w.heap.size + 1 + 1; omega) _⟩
                      | true =>
                        have HSt := Lib.hid (show shStep X Y h'' (sw, num) = putF h'' sw X2 Y2 by rw [shStep_yes HOk2.out, HX2.out, HY2.out])
                        have HFq := Lib.hid (isF_abs (show isF X2 Y2 = true by rw [← HX2.out, ← HY2.out]; exact fOk_isFp HOk2.out))
                        have HGd := Lib.hid (HG2.out)
                        obtain ⟨wb, hwb⟩ : ∃ wb, wa.alloc (.cells #[.int .i64 X2, .int .i64 Y2] 44) = wb := ⟨_, rfl⟩
                        have hbb : Below w9.heap.size w9 wb := by rw [← hwb]; exact hba.alloc hza _
                        have hzb : wa.heap.size < wb.heap.size := by rw [← hwb]; simp
                        have q0 : wb.cell? ⟨wa.heap.size, 0, none⟩ = some (.int .i64 X2) := by subst hwb; go_simp
                        have q1 : wb.cell? ⟨wa.heap.size, 1, none⟩ = some (.int .i64 Y2) := by subst hwb; go_simp
                        have HSb := Lib.hid (HS9.out.next hbb (by go_light; omega))
                        have HGb := Lib.hid (gr_trans HG9.out (gr_below hbb))
                        obtain ⟨av, cv, hlc, hNr, hBl, hBe⟩ := HSb.out
                        have HBl := Lib.hid hBl
                        have n2 : wb.cell? ⟨w1.heap.size, 2, none⟩ = some (.slice av (termsOf h'' ws).length cv) := hBl.cell 2
                        have nf : wb.frozen? ⟨w1.heap.size, 2, none⟩ = false := hBl.frozen 2
                        have cb := (hbb.cell (p := ⟨bw, k, none⟩) (by go_light; show bw < _; omega)).trans c9
                        have hlen : (termsOf h'' ws).length ≤ 2097152 := by have := termsOf_few h'' ws; omega
                        have hbw9 : bw < wb.heap.size := by go_light; omega
                        have hnb9 : w1.heap.size < wb.heap.size := by go_light; omega
                        have HPc := Lib.hid (l01Put_c av (termsOf h'' ws).length cv (termsOf h'' ws) rfl sw X2 Y2 ⟨HFq.out.1, HFq.out.2.1⟩ (fun t ht => by
                          have h1 := (termsOf_iff.1 ht).2
                          have h2 := isF_abs (HG2.out _ _ h1).2.1
                          exact ⟨h2.1, h2.2.1⟩) hlen hlc wb.drew hNr.row)
                        rw [putL_termsOf HAs.out hsin] at HPc
                        clear hba hbb hBl hNr hlen c9 p09 p19
                        go_upto_region 25 with fail
                        cases hp : putF h'' sw X2 Y2 with
                        | none =>
                          rw [hp] at HPc HSt
                          simp only [Option.map_none] at HPc
                          clear hp
                          go_cut [20, 21] (fun s8 s9 wy => Below wb.heap.size wb wy ∧ s8 = .slice none 0 0 ∧ s9 = .bool false)
                          case first =>
                            go_region_held3 (fun w' => w'.cell? ⟨w1.heap.size, 2, none⟩ = some (.slice av (termsOf h'' ws).length cv) ∧ w'.cell? ⟨bw, k, none⟩ = some (.string sw) ∧ w'.cell? ⟨wa.heap.size, 0, none⟩ = some (.int .i64 X2) ∧ w'.cell? ⟨wa.heap.size, 1, none⟩ = some (.int .i64 Y2))
                              (go_keep)
                              ((go_at_call 38; refine HPc.out.mono ?_; rintro e w5 ⟨rfl, hB5⟩; have bc := bcellB hB5; have z1 := (bc.1 _ 2 hnb9).trans n2; have z2 := (bc.1 bw k hbw9).trans cb; have z3 := (bc.1 wa.heap.size 0 hzb).trans q0; have z4 := (bc.1 wa.heap.size 1 hzb).trans q1))
                            all_goals (go_wp2_with fail; go_meet)
                            exact ⟨⟨hB5.os, hB5.tape, hB5.output, hB5.size, hB5.block⟩, rfl, rfl⟩
                          case rest =>
                            obtain ⟨hbc, rfl, rfl⟩ := hcut
                            obtain ⟨w6, rfl⟩ : ∃ w6 : World, w6 = wc := ⟨_, rfl⟩
                            have HE := Lib.hid (show none = o by rw [← HO2.out, HKn.out, HSt.out]; rfl)
                            have HSc := Lib.hid (HSb.out.next hbc (by go_light; omega))
                            obtain ⟨ez, e0, e1, e2, r0, r1, r2⟩ := HZ.out w6 HSc.out.below
                            have HBb := Lib.hid (HW3.out.trans (HSc.out.below.mono (by go_light; omega)))
                            clear hbc
                            repeat (first | go_values | go_skip | go_guarded | go_step | go_upon)
                            rw [← HE.out]
                            (try simp only [Exit.inBlock, Exit.then])
                            refine bodyPost_ret (v := .tuple #[.agg #[.int .i64 0, .int .i64 0, .slice none 0 0], .bool false]) (by simp [results, Tryz.results24, go_sem, e0, e1, e2]) rfl ?_
                            exact ⟨rfl, ((HBb.out.setCell (p := ⟨w.heap.size + 1 + 1, 0, none⟩) (by go_light; show _ ≤ w.heap.size + 1 + 1; omega) _).setCell (p := ⟨w.heap.size + 1 + 1, 1, none⟩) (by go_light; show _ ≤ w.heap.size + 1 + 1; omega) _).setCell (p := ⟨w.heap.size + 1 + 1, 2, none⟩) (by go_light; show _ ≤ w.heap.size + 1 + 1; omega) _⟩
                        | some h3 =>
                          rw [hp] at HPc HSt
                          simp only [Option.map_some] at HPc
                          clear hp
                          go_cut [20, 21] (fun s8 s9 wy => ∃ (a : Option Addr) (cap : Nat), Below wb.heap.size wb wy ∧ s8 = .slice a (termsOf h3 ws).length cap ∧ s9 = .bool true ∧ (termsOf h3 ws).length ≤ cap ∧ NewRow wb.heap.size wy.heap.size wy a (termsOf h3 ws))
                          case first =>
                            go_region_held3 (fun w' => w'.cell? ⟨w1.heap.size, 2, none⟩ = some (.slice av (termsOf h'' ws).length cv) ∧ w'.cell? ⟨bw, k, none⟩ = some (.string sw) ∧ w'.cell? ⟨wa.heap.size, 0, none⟩ = some (.int .i64 X2) ∧ w'.cell? ⟨wa.heap.size, 1, none⟩ = some (.int .i64 Y2))
                              (go_keep)
                              ((go_at_call 38; refine HPc.out.mono ?_; rintro e w5 ⟨a5, c5, rfl, hlc5, hB5, hN5⟩; have bc := bcellB hB5; have z1 := (bc.1 _ 2 hnb9).trans n2; have z2 := (bc.1 bw k hbw9).trans cb; have z3 := (bc.1 wa.heap.size 0 hzb).trans q0; have z4 := (bc.1 wa.heap.size 1 hzb).trans q1))
                            all_goals (go_wp2_with fail; go_meet)
                            exact ⟨a5, c5, ⟨hB5.os, hB5.tape, hB5.output, hB5.size, hB5.block⟩, rfl, rfl, hlc5, hN5⟩
                          case rest =>
                            obtain ⟨a5, c5, hbc, rfl, rfl, hlc5, hN5⟩ := hcut
                            obtain ⟨w6, rfl⟩ : ∃ w6 : World, w6 = wc := ⟨_, rfl⟩
                            have hsz := hbc.size
                            have bc := bcellB hbc
                            have n6 : w6.cell? ⟨w1.heap.size, 2, none⟩ = some (.slice av (termsOf h'' ws).length cv) := (bc.1 _ _ hnb9).trans n2
                            have nf6 : w6.frozen? ⟨w1.heap.size, 2, none⟩ = false := (bc.2 _ _ hnb9).trans nf
                            have HE := Lib.hid (show ((shK X Y (kL ss ts (wl.drop (k + 1))) h3).bind (shRow D N ⟨ss, x, d⟩ (ys.drop (j + 1)))).bind (shAll D N ys (xs.drop (i + 1))) = o by rw [← HO2.out, HKn.out, HSt.out]; rfl)
                            have HG3 := Lib.hid (GoodV.shStep (x := (sw, num)) HG2.out hsin HSt.out)
                            have HSn := Lib.hid (show OutS D N (w.heap.size + 1 + 1 + 1) w1.heap.size w3 (termsOf h3 ws) (w6.setCell ⟨w1.heap.size, 2, none⟩ (.slice a5 (termsOf h3 ws).length c5)) from
                              ⟨a5, c5, hlc5, (hN5.far1s (n := w1.heap.size) (i := 2) (x := .slice a5 (termsOf h3 ws).length c5) hnb9).mono (show w.heap.size + 1 + 1 + 1 ≤ _ by omega) (show _ ≤ (w6.setCell ⟨w1.heap.size, 2, none⟩ (.slice a5 (termsOf h3 ws).length c5)).heap.size by simp), (HBl.out.below hbc hnb9).set_ 2 _, (HSb.out.below.trans (hbc.mono (by go_light; omega))).setCell (p := ⟨w1.heap.size, 2, none⟩) (by go_light; show _ ≤ w1.heap.size; omega) _⟩)
                            have HGn := Lib.hid (gr_trans (gr_trans HGb.out (gr_below hbc)) (gr_set w6 w1.heap.size 2 (.slice a5 (termsOf h3 ws).length c5)))
                            clear bc hbc hN5
                            go_wp2
                            go_roundw
                            case rel => go_light; exact ⟨k + 1, h3, by omega, by go_num, HE.out, HG3.out, HSn.out, HGn.out⟩
                            case measure => go_light; simp [intOf]; omega
                    · obtain rfl : k = wl.length := by go_light; omega
                      have HE := Lib.hid (show (shRow D N ⟨ss, x, d⟩ (ys.drop (j + 1)) h'').bind (shAll D N ys (xs.drop (i + 1))) = o by have h1 := HO2.out; rw [kL_end (Nat.le_refl _)] at h1; exact h1)
                      go_wp2
                      go_roundw
                      case rel => go_light; exact ⟨j + 1, h'', by omega, by go_num, HE.out, HG2.out, HS2.out⟩
                      case measure => go_light; simp [intOf]; omega
                · have hfI : (N : Int) < (ss.size : Int) + (ts.size : Int) := by go_light; omega
                  have HE := Lib.hid (show (shRow D N ⟨ss, x, d⟩ (ys.drop (j + 1)) h').bind (shAll D N ys (xs.drop (i + 1))) = o by
                    rw [← HO.out, HNr.out, shPair_far (s := ⟨ss, x, d⟩) (t := ⟨ts, y, e⟩) HOk.out hfit]; rfl)
                  go_wp2
                  go_roundw
                  case rel => go_light; exact ⟨j + 1, h', by omega, by go_num, HE.out, HG.out, HS7.out⟩
                  case measure => go_light; simp [intOf]; omega
        · obtain rfl : j = ys.length := by go_light; omega
          have HE := Lib.hid (show shAll D N ys (xs.drop (i + 1)) h' = o by have h1 := HO.out; rw [shRow_end (Nat.le_refl _)] at h1; exact h1)
          go_wp2
          go_roundw
          case rel => go_light; exact ⟨i + 1, h', by omega, by go_num, HE.out, HG.out, HS.out⟩
          case measure => go_light; simp [intOf]; omega
    · obtain rfl : i = xs.length := by go_light; omega
      have HE := Lib.hid (show some h = o by have h1 := HO.out; rw [shAll_end (Nat.le_refl _)] at h1; exact h1)
      have HBw := Lib.hid (HW3.out.trans (HS.out.below.mono (by go_light; omega)))
      obtain ⟨av, cv, hlc, hNr, hBl, hBe⟩ := HS.out
      have m0 : wo.cell? ⟨w1.heap.size, 0, none⟩ = some (.int .i64 D) := hBl.cell 0
      have m1 : wo.cell? ⟨w1.heap.size, 1, none⟩ = some (.int .i64 N) := hBl.cell 1
      have m2 : wo.cell? ⟨w1.heap.size, 2, none⟩ = some (.slice av (termsOf h ws).length cv) := hBl.cell 2
      obtain ⟨ez, e0, e1, e2, r0, r1, r2⟩ := HZ.out wo HS.out.below
      have HNr := Lib.hid hNr
      clear hNr hBl hBe hlc
      repeat (first | go_values | go_skip | go_guarded | go_step | go_upon)
      rw [← HE.out]
      (try simp only [Exit.inBlock, Exit.then])
      refine bodyPost_ret (v := .tuple #[.agg #[.int .i64 D, .int .i64 N, .slice av (termsOf h ws).length cv], .bool true]) (by simp [results, Tryz.results24, go_sem, e0, e1, e2]) rfl ?_
      exact ⟨av, cv, rfl, ((HBw.out.setCell (p := ⟨w.heap.size + 1 + 1, 0, none⟩) (by go_light; show _ ≤ w.heap.size + 1 + 1; omega) _).setCell (p := ⟨w.heap.size + 1 + 1, 1, none⟩) (by go_light; show _ ≤ w.heap.size + 1 + 1; omega) _).setCell (p := ⟨w.heap.size + 1 + 1, 2, none⟩) (by go_light; show _ ≤ w.heap.size + 1 + 1; omega) _, (((HNr.out.far1s (by go_light; omega)).far1s (by go_light; omega)).far1s (by go_light; omega)).mono (by go_light; omega) (by simp)⟩
end Go.Proofs.YtdgkkcjjfpenpaaGreatDoor
