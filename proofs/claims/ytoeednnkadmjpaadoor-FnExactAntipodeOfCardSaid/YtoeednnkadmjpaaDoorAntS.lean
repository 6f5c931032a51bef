/-
  Contracts of AntipodeOf, of the program and of its model: both return the same series and code.
-/
import Derived.Test.YtoeednnkadmjpaaDoorRngV
import Derived.Test.YtoeednnkadmjpaaDoorRevS
namespace Go.Proofs.YtoeednnkadmjpaaDoor
open Go.RowKit

theorem oppositeOf_c (x d : Int) (hneg : IntKind.i64.wrap (-x) = -x) (w : World) :
    Calls Tryd.prog 63 #[.agg #[.int .i64 x, .int .i64 d]] w fun e w' => e = .returned (.agg #[.int .i64 (-x), .int .i64 d]) ∧ ∃ o o2, w' = (w.alloc o).alloc o2 := by
  go_enter Tryd.func63, Tryd.ntmps63
  go_wp2
  exact bodyPost_ret (v := .agg #[.int .i64 (-x), .int .i64 d]) (by simp [results, Tryd.results63, go_sem]) rfl ⟨rfl, _, _, rfl⟩

/-- what the values become: the sign turns at words of odd length that have been met -/
def signV (f : ByteArray → Option (Int × Int)) (left : ByteArray → Bool) : ByteArray → Option (Int × Int) :=
  fun s => if left s then f s else (f s).map (fun p => (if s.size % 2 = 1 then -p.1 else p.1, p.2))
theorem signV_step {V f : ByteArray → Option (Int × Int)} {left : ByteArray → Bool} {s : ByteArray} {x d : Int} (hF : ∀ z : ByteArray, z.size ≤ maxLen → f z = signV V left z) (hl : left s = true) (hs : s.size ≤ maxLen) (hfs : f s = some (x, d)) :
    ∀ z : ByteArray, z.size ≤ maxLen → setF f s (some (if s.size % 2 = 1 then -x else x, d)) z = signV V (fun z => left z && !decide (z = s)) z := by
  have hv : V s = some (x, d) := by
    have h := hF s hs
    unfold signV at h
    rw [hl, if_pos rfl] at h
    rw [← h, hfs]
  intro z hz
  unfold setF
  by_cases e : z = s
  · subst e
    rw [if_pos rfl]
    unfold signV
    simp [hv]
  · rw [if_neg e, hF z hz]
    unfold signV
    simp [e]
theorem signV_even {V f : ByteArray → Option (Int × Int)} {left : ByteArray → Bool} {s : ByteArray} {x d : Int} (hF : ∀ z : ByteArray, z.size ≤ maxLen → f z = signV V left z) (hl : left s = true) (hs : s.size ≤ maxLen) (hfs : f s = some (x, d)) (ho : ¬ s.size % 2 = 1) :
    ∀ z : ByteArray, z.size ≤ maxLen → f z = signV V (fun z => left z && !decide (z = s)) z := by
  intro z hz
  rw [← signV_step hF hl hs hfs z hz, if_neg ho]
  unfold setF
  by_cases e : z = s
  · subst e
    rw [if_pos rfl, hfs]
  · rw [if_neg e]
theorem signV_start {V : ByteArray → Option (Int × Int)} {left : ByteArray → Bool} (h : ∀ s : ByteArray, s.size ≤ maxLen → left s = false → V s = none) : ∀ z : ByteArray, z.size ≤ maxLen → V z = signV V left z := by
  intro z hz
  unfold signV
  cases hl : left z with
  | true => simp
  | false => simp [h z hz hl]
/-- a value that is found is a term's -/
theorem sign_bd {D N : Nat} {ts : List Tm} (h : serB D N ts = true) {f : ByteArray → Option (Int × Int)} {left : ByteArray → Bool} {s : ByteArray} {x d : Int} (hF : ∀ z : ByteArray, z.size ≤ maxLen → f z = signV (valR ts ts.length) left z) (hl : left s = true) (hs : s.size ≤ maxLen) (hfs : f s = some (x, d)) :
    ∃ t ∈ ts, x = t.n ∧ d = t.d := by
  have hv : valR ts ts.length s = some (x, d) := by
    have h := hF s hs
    unfold signV at h
    rw [hl, if_pos rfl] at h
    rw [← h, hfs]
  obtain ⟨i, hi, _, _, hp⟩ := (valR_iff (ser_ne h) ts.length (Nat.le_refl _) s (x, d)).1 hv
  injection hp with h1 h2
  exact ⟨ts[i], List.getElem_mem hi, h1, h2⟩
/-- the program's series of signed values has the model's terms -/
theorem antipode_terms {D N : Nat} {ts : List Tm} (h : serB D N ts = true) {f : ByteArray → Option (Int × Int)} {left : ByteArray → Bool} (h0 : ∀ s, left s = false) (hF : ∀ z : ByteArray, z.size ≤ maxLen → f z = signV (valR ts ts.length) left z) : termsOf f (allW D N) = turned true ts := by
  have hsh : shapeB (D : Int) (N : Int) = true := by unfold serB at h; rw [Bool.and_eq_true] at h; exact h.1
  have hD := shape_out hsh
  obtain ⟨i1, i2, _⟩ := turned_all (sg := true) (ser_ne h) (ser_nz2 h)
  refine termsOf_eq (by omega) i1 fun t => ?_
  rw [i2]
  have key : ∀ z ∈ allW D N, f z = (valR ts ts.length z).map (fun p => (if z.size % 2 = 1 then -p.1 else p.1, p.2)) := fun z hz => by
    have hz2 := allW_size D N z hz
    rw [hF z (by unfold maxLen; omega)]
    unfold signV
    rw [h0]
    simp
  constructor
  · rintro ⟨u, hu, rfl⟩
    obtain ⟨i, hi, rfl⟩ := List.getElem_of_mem hu
    have hm : revW (ts[i]).s ∈ allW D N := by
      have ht := ser_term h _ (List.getElem_mem hi)
      simp only [termB, Bool.and_eq_true, decide_eq_true_eq] at ht
      refine allW_all (by omega) N _ ?_ ?_
      · rw [revW_size]
        omega
      · rw [revW_list, word_reverse]
        exact ht.1.2
    refine ⟨hm, ?_⟩
    show f (revW (ts[i]).s) = _
    rw [key _ hm, (valR_iff (ser_ne h) ts.length (Nat.le_refl _) (revW (ts[i]).s) ((ts[i]).n, (ts[i]).d)).2 ⟨i, hi, hi, rfl, rfl⟩]
    simp [turnT, revW_size]
  · rintro ⟨hm, hp⟩
    rw [key _ hm] at hp
    cases hv : valR ts ts.length t.s with
    | none => rw [hv] at hp; simp at hp
    | some p =>
      rw [hv] at hp
      obtain ⟨i, hi, _, he, rfl⟩ := (valR_iff (ser_ne h) ts.length (Nat.le_refl _) t.s p).1 hv
      refine ⟨ts[i], List.getElem_mem hi, ?_⟩
      obtain ⟨s, n, d⟩ := t
      simp only at he hp
      simp only [Option.map_some, Option.some.injEq, Prod.mk.injEq] at hp
      subst he
      rw [revW_size] at hp
      simp [turnT, hp.1.symm, hp.2.symm]

section
variable (L V : Int) (g : Nat) (ts : List Tm) (w : World)
set_option maxHeartbeats 2000000 in
theorem sAnt_1 (h1 : serB L V ts = false) (hl : ts.length ≤ 1048576) (hs : ∀ i (h : i < ts.length), (ts[i]).s.size ≤ maxLen) (hb : g < w.heap.size) (ht : TermsIn w g 0 ts) :
    Calls Tryd.prog 26 #[.agg #[.int .i64 L, .int .i64 V, .slice (some ⟨g, 0, none⟩) ts.length ts.length]] w (SerPost 0 0 [] 1 w) := by
  have HT := Lib.hid ht
  have HS := Lib.hid hs
  clear ht hs
  go_enter Tryd.func26, Tryd.ntmps26
  go_wp2_with fail
  refine (l01Is_c L V g 0 _ ts hl HS.out _ (by simp; omega) (HT.out.below (below2 w _ _) hb)).mono ?_
  rintro e w1 ⟨rfl, hb1⟩
  have hB := hb1
  simp only [World.size_alloc] at hB
  obtain ⟨hc, hf⟩ := bcellB hB
  have r0 : w1.cell? ⟨w.heap.size + 1, 0, none⟩ = some (.int .i64 0) := (hc _ _ (by omega)).trans (by go_simp)
  have r1 : w1.cell? ⟨w.heap.size + 1, 1, none⟩ = some (.int .i64 0) := (hc _ _ (by omega)).trans (by go_simp)
  have r2 : w1.cell? ⟨w.heap.size + 1, 2, none⟩ = some (.slice none 0 0) := (hc _ _ (by omega)).trans (by go_simp)
  have z0 : w1.frozen? ⟨w.heap.size + 1, 0, none⟩ = false := (hf _ _ (by omega)).trans (by go_simp)
  have z1 : w1.frozen? ⟨w.heap.size + 1, 1, none⟩ = false := (hf _ _ (by omega)).trans (by go_simp)
  have z2 : w1.frozen? ⟨w.heap.size + 1, 2, none⟩ = false := (hf _ _ (by omega)).trans (by go_simp)
  have hz : w.heap.size + 1 < w1.heap.size := by have := hB.size; simp at this; omega
  have hW : Below w.heap.size w w1 := (below2 w _ _).trans (hb1.mono (by simp; omega))
  clear hb1 hB hc hf
  rw [h1]
  go_wp2
  exact bodyPost_ret (v := .tuple #[.agg #[.int .i64 0, .int .i64 0, .slice none 0 0], .int .i64 1]) (by simp [results, Tryd.results26, go_sem, r0, r1, r2]) rfl (SerPost.err 1 rfl (by go_grown))
set_option maxHeartbeats 2000000 in
theorem iAnt_1 (h1 : serB L V ts = false) (hl : ts.length ≤ 1048576) (hs : ∀ i (h : i < ts.length), (ts[i]).s.size ≤ maxLen) (hb : g < w.heap.size) (ht : TermsIn w g 0 ts) :
    Calls Tryd.prog 27 #[.agg #[.int .i64 L, .int .i64 V, .slice (some ⟨g, 0, none⟩) ts.length ts.length]] w (SerPost 0 0 [] 1 w) := by
  have HT := Lib.hid ht
  have HS := Lib.hid hs
  clear ht hs
  go_enter Tryd.func27, Tryd.ntmps27
  go_wp2_with fail
  refine (iIsSeries_c L V g 0 _ ts hl HS.out _ (by simp; omega) (HT.out.below (below2 w _ _) hb)).mono ?_
  rintro e w1 ⟨rfl, hb1⟩
  have hB := hb1
  simp only [World.size_alloc] at hB
  obtain ⟨hc, hf⟩ := bcellB hB
  have r0 : w1.cell? ⟨w.heap.size + 1, 0, none⟩ = some (.int .i64 0) := (hc _ _ (by omega)).trans (by go_simp)
  have r1 : w1.cell? ⟨w.heap.size + 1, 1, none⟩ = some (.int .i64 0) := (hc _ _ (by omega)).trans (by go_simp)
  have r2 : w1.cell? ⟨w.heap.size + 1, 2, none⟩ = some (.slice none 0 0) := (hc _ _ (by omega)).trans (by go_simp)
  have z0 : w1.frozen? ⟨w.heap.size + 1, 0, none⟩ = false := (hf _ _ (by omega)).trans (by go_simp)
  have z1 : w1.frozen? ⟨w.heap.size + 1, 1, none⟩ = false := (hf _ _ (by omega)).trans (by go_simp)
  have z2 : w1.frozen? ⟨w.heap.size + 1, 2, none⟩ = false := (hf _ _ (by omega)).trans (by go_simp)
  have hz : w.heap.size + 1 < w1.heap.size := by have := hB.size; simp at this; omega
  have hW : Below w.heap.size w w1 := (below2 w _ _).trans (hb1.mono (by simp; omega))
  clear hb1 hB hc hf
  rw [h1]
  go_wp2
  exact bodyPost_ret (v := .tuple #[.agg #[.int .i64 0, .int .i64 0, .slice none 0 0], .int .i64 1]) (by simp [results, Tryd.results27, go_sem, r0, r1, r2]) rfl (SerPost.err 1 rfl (by go_grown))
set_option maxRecDepth 100000 in
set_option maxHeartbeats 4000000 in
theorem sAnt_2 (h1 : serB L V ts = true) (hl : ts.length ≤ 1048576) (hs : ∀ i (h : i < ts.length), (ts[i]).s.size ≤ maxLen) (hb : g < w.heap.size) (ht : TermsIn w g 0 ts) :
    Calls Tryd.prog 26 #[.agg #[.int .i64 L, .int .i64 V, .slice (some ⟨g, 0, none⟩) ts.length ts.length]] w (SerPost L V (turned true ts) 0 w) := by
  have HT := Lib.hid ht
  have HS := Lib.hid hs
  have HRv := Lib.hid (fun W hb ht => l02Reversal_c true L V g 0 ts.length ts h1 hl W hb ht)
  clear ht hs
  go_enter Tryd.func26, Tryd.ntmps26
  go_wp2_with fail
  refine (l01Is_c L V g 0 _ ts hl HS.out _ (by simp; omega) (HT.out.below (below2 w _ _) hb)).mono ?_
  rintro e w1 ⟨rfl, hb1⟩
  have hB := hb1
  simp only [World.size_alloc] at hB
  have bc := bcellB hB
  have x0 : w1.cell? ⟨w.heap.size, 0, none⟩ = some (.int .i64 L) := (bc.1 _ _ (by omega)).trans (by go_simp)
  have x1 : w1.cell? ⟨w.heap.size, 1, none⟩ = some (.int .i64 V) := (bc.1 _ _ (by omega)).trans (by go_simp)
  have x2 : w1.cell? ⟨w.heap.size, 2, none⟩ = some (.slice (some ⟨g, 0, none⟩) ts.length ts.length) := (bc.1 _ _ (by omega)).trans (by go_simp)
  have hW : Below w.heap.size w w1 := (below2 w _ _).trans (hb1.mono (by simp; omega))
  have HT1 := Lib.hid (HT.out.below hW hb)
  have hz : w.heap.size + 1 < w1.heap.size := by have := hB.size; simp at this; omega
  have HB := Lib.hid hB
  clear hb1 hB bc hW
  rw [h1]
  go_wp2_with fail
  refine (HRv.out _ (by omega) HT1.out).mono ?_
  rintro e w2 ⟨a2, c2, rfl, hb2, hN2⟩
  have hz2 := hb2.size
  have HB2 := Lib.hid (HB.out.trans (hb2.mono (by omega)))
  have HN2 := Lib.hid hN2
  have bc := bcellB HB2.out
  have r0 : w2.cell? ⟨w.heap.size + 1, 0, none⟩ = some (.int .i64 0) := (bc.1 _ _ (by omega)).trans (by go_simp)
  have r1 : w2.cell? ⟨w.heap.size + 1, 1, none⟩ = some (.int .i64 0) := (bc.1 _ _ (by omega)).trans (by go_simp)
  have r2 : w2.cell? ⟨w.heap.size + 1, 2, none⟩ = some (.slice none 0 0) := (bc.1 _ _ (by omega)).trans (by go_simp)
  have z0 : w2.frozen? ⟨w.heap.size + 1, 0, none⟩ = false := (bc.2 _ _ (by omega)).trans (by go_simp)
  have z1 : w2.frozen? ⟨w.heap.size + 1, 1, none⟩ = false := (bc.2 _ _ (by omega)).trans (by go_simp)
  have z2 : w2.frozen? ⟨w.heap.size + 1, 2, none⟩ = false := (bc.2 _ _ (by omega)).trans (by go_simp)
  have hz3 : w.heap.size + 1 < w2.heap.size := by omega
  have HW := Lib.hid ((below2 w _ _).trans (HB2.out.mono (by omega)))
  clear bc hb2 hN2 x0 x1 x2
  go_wp2
  refine bodyPost_ret (v := .tuple #[.agg #[.int .i64 L, .int .i64 V, .slice a2 (turned true ts).length c2], .int .i64 0]) (by simp [results, Tryd.results26, go_sem, r0, r1, r2]) rfl ⟨a2, c2, rfl, ?_, ?_⟩
  · have hW := HW.out
    go_grown
  · exact (HN2.out.far3u (n := w.heap.size + 1) (by omega)).mono (by omega) (by simp)
end


set_option maxRecDepth 100000 in
set_option maxHeartbeats 8000000 in
theorem iAnt_2 (D N : Nat) (g : Nat) (ts : List Tm) (w : World) (h1 : serB D N ts = true) (hl : ts.length ≤ 1048576) (hs : ∀ i (h : i < ts.length), (ts[i]).s.size ≤ maxLen) (hb : g < w.heap.size) (ht : TermsIn w g 0 ts) :
    Calls Tryd.prog 27 #[.agg #[.int .i64 D, .int .i64 N, .slice (some ⟨g, 0, none⟩) ts.length ts.length]] w (SerPost D N (turned true ts) 0 w) := by
  have hsh : shapeB (D : Int) (N : Int) = true := by unfold serB at h1; rw [Bool.and_eq_true] at h1; exact h1.1
  have hDN := shape_out hsh
  have HT := Lib.hid ht
  have HS := Lib.hid hs
  have H1 := Lib.hid h1
  have HL := Lib.hid hl
  have HS5 := Lib.hid (ser_small h1)
  have hfew := allW_few (D := D) (by omega) (n := N) (by omega)
  have HSp := Lib.hid (fun W => spaceOf_c D N (by omega) (by omega) W)
  have HVa := Lib.hid (fun W hr => reversedValues_c D N (some ⟨g, 0, none⟩) ts.length ts hl (fun i h => by have := HS5.out _ (List.getElem_mem h); omega) W hr)
  have HSe := Lib.hid (fun a1 c1 b f W hr hm => seriesOf_c D N a1 c1 (allW D N) (by omega) (fun s hs => by have := allW_size D N s hs; omega) b ts.length f W hr hm)
  clear ht hs hsh
  go_enter Tryd.func27, Tryd.ntmps27
  go_wp2_with fail
  refine (iIsSeries_c D N g 0 _ ts hl HS.out _ (by simp; omega) (HT.out.below (below2 w _ _) hb)).mono ?_
  rintro e w1 ⟨rfl, hb1⟩
  have hB := hb1
  simp only [World.size_alloc] at hB
  have bc := bcellB hB
  have x0 : w1.cell? ⟨w.heap.size, 0, none⟩ = some (.int .i64 D) := (bc.1 _ _ (by omega)).trans (by go_simp)
  have x1 : w1.cell? ⟨w.heap.size, 1, none⟩ = some (.int .i64 N) := (bc.1 _ _ (by omega)).trans (by go_simp)
  have x2 : w1.cell? ⟨w.heap.size, 2, none⟩ = some (.slice (some ⟨g, 0, none⟩) ts.length ts.length) := (bc.1 _ _ (by omega)).trans (by go_simp)
  have hW : Below w.heap.size w w1 := (below2 w _ _).trans (hb1.mono (by simp; omega))
  have HT1 := Lib.hid (HT.out.below hW hb)
  have hz : w.heap.size + 1 < w1.heap.size := by have := hB.size; simp at this; omega
  have HB := Lib.hid hB
  have hgz : g < w1.heap.size := by omega
  clear hb1 hB bc hW
  rw [h1]
  clear h1 hl
  go_wp2_with fail
  refine (HVa.out _ (.inr ⟨g, 0, rfl, hgz, HT1.out⟩)).mono ?_
  rintro e wv ⟨bv, rfl, hbv1, hbv0, hMv⟩
  have HBv : Hid (Below w1.heap.size w1 wv) := Lib.hid hbv0
  have HMv := Lib.hid hMv
  have hvz := hbv0.size
  have hbvl := hMv.lt
  clear hbv0 hMv x0 x1 x2
  go_wp2_with (at_range; refine wpList_rangeV rfl _ rfl rfl HMv.out ?_; intro w0 left0 cnt0 hrg0 hl0 hg0 hs0)
  go_frame
  have HB0 : Hid (Below w1.heap.size w1 w0) := Lib.hid (HBv.out.trans (below_of_grown hg0 (fun g h => by cases h) hvz))
  go_loopw [15] (fun _ wr => ∃ (f : ByteArray → Option (Int × Int)) (left : ByteArray → Bool) (cnt : Nat), RngV wr bv wv.heap.size ts.length f left cnt ∧ (∀ z : ByteArray, z.size ≤ maxLen → f z = signV (valR ts ts.length) left z) ∧ Below w1.heap.size w1 wr)
    (fun _ wr => wr.rangeLeft bv wv.heap.size)
  case atStart => exact ⟨_, _, _, hrg0, signV_start hl0, HB0.out⟩
  case round =>
    obtain ⟨f, left, cnt, hR, hF, hBr⟩ := hrel
    have HR := Lib.hid hR
    have HF := Lib.hid hF
    have HBr := Lib.hid hBr
    clear hR hF hBr hrg0 hg0 HB0 hl0
    have hzr := HBr.out.size
    go_wp2_with (at_next; refine wpList_nextV rfl _ rfl rfl HR.out ?_ ?_)
    · intro hl9
      have HTs := Lib.hid (antipode_terms H1.out hl9 HF.out)
      have HM := Lib.hid HR.out.mapV
      have hz3 : w.heap.size + 1 < wr.heap.size := Nat.lt_of_lt_of_le hz hzr
      have HB9 := Lib.hid (HB.out.trans (HBr.out.mono (show w.heap.size + 1 + 1 ≤ w1.heap.size by omega)))
      have bc := bcellB HB9.out
      have x0 : wr.cell? ⟨w.heap.size, 0, none⟩ = some (.int .i64 D) := (bc.1 _ _ (by omega)).trans (by go_simp)
      have x1 : wr.cell? ⟨w.heap.size, 1, none⟩ = some (.int .i64 N) := (bc.1 _ _ (by omega)).trans (by go_simp)
      clear bc
      go_wp2_with fail
      refine (HSp.out _).mono ?_
      rintro e ws ⟨asp, csp, rfl, hbs0, hNs⟩
      have HNs := Lib.hid hNs
      have HM2 := Lib.hid (HM.out.below hbs0 HM.out.lt)
      have HBs := Lib.hid (HB9.out.trans (hbs0.mono (show w.heap.size + 1 + 1 ≤ wr.heap.size by omega)))
      have hsz := hbs0.size
      clear hbs0 hNs x0 x1
      go_wp2_with fail
      refine (HSe.out asp csp bv f _ HNs.out.row HM2.out).mono ?_
      rw [HTs.out]
      rintro e wz ⟨gz, rfl, hbz0, hgz0, hMz, hTz⟩
      have HMz := Lib.hid hMz
      have HTz := Lib.hid hTz
      have hzs := hbz0.size
      have HBz := Lib.hid (HBs.out.trans (hbz0.mono (show w.heap.size + 1 + 1 ≤ ws.heap.size by omega)))
      obtain ⟨hc, hf⟩ := bcellB HBz.out
      have r0 : wz.cell? ⟨w.heap.size + 1, 0, none⟩ = some (.int .i64 0) := (hc _ _ (by omega)).trans (by go_simp)
      have r1 : wz.cell? ⟨w.heap.size + 1, 1, none⟩ = some (.int .i64 0) := (hc _ _ (by omega)).trans (by go_simp)
      have r2 : wz.cell? ⟨w.heap.size + 1, 2, none⟩ = some (.slice none 0 0) := (hc _ _ (by omega)).trans (by go_simp)
      have z0 : wz.frozen? ⟨w.heap.size + 1, 0, none⟩ = false := (hf _ _ (by omega)).trans (by go_simp)
      have z1 : wz.frozen? ⟨w.heap.size + 1, 1, none⟩ = false := (hf _ _ (by omega)).trans (by go_simp)
      have z2 : wz.frozen? ⟨w.heap.size + 1, 2, none⟩ = false := (hf _ _ (by omega)).trans (by go_simp)
      have hzz : w.heap.size + 1 < wz.heap.size := by omega
      have hgz1 : w1.heap.size ≤ gz := by omega
      have hW3 : Below w.heap.size w wz := (below2 w _ _).trans (HBz.out.mono (by omega))
      clear hc hf hbz0 hgz0 hMz hTz
      go_wp2
      refine bodyPost_ret (v := .tuple #[.agg #[.int .i64 D, .int .i64 N, .slice (some ⟨gz, 0, none⟩) (turned true ts).length (turned true ts).length], .int .i64 0]) (by simp [results, Tryd.results27, go_sem, r0, r1, r2]) rfl ⟨some ⟨gz, 0, none⟩, (turned true ts).length, rfl, by go_grown, ?_⟩
      exact ((NewRow.of_to (lo := w1.heap.size) hgz1 HMz.out HTz.out).far3u (n := w.heap.size + 1) (by omega)).mono (by omega) (by simp)
    · intro s x d w2 cnt2 hsm hls hfs hR2 hlt hg2 hs2 hen
      obtain ⟨t, htm, hxt, hdt⟩ := sign_bd H1.out HF.out hls hsm hfs
      have hbd := ser_bd2 H1.out t htm
      unfold bdT at hbd
      rw [← hxt, ← hdt] at hbd
      have hneg : IntKind.i64.wrap (-x) = -x := IntWalk.i64_in _ (by omega)
      have HSg := Lib.hid (signV_step HF.out hls hsm hfs)
      have HSe2 := Lib.hid (signV_even HF.out hls hsm hfs)
      have HR2 := Lib.hid hR2
      have HB2 : Hid (Below w1.heap.size w1 w2) := Lib.hid (HBr.out.trans (below_of_grown hg2 (fun g h => by cases h; omega) hzr))
      have hin : f s ≠ none := by rw [hfs]; simp
      have hsm2 : s.size ≤ 9223372036854775807 := hsm
      have hz2 := HB2.out.size
      have hlt2 : (w2.rangeLeft bv wv.heap.size) < wr.rangeLeft bv wv.heap.size := by rw [hR2.left_eq, HR.out.left_eq]; exact hlt
      clear hR2 hg2 hbd hxt hdt htm
      by_cases ho : s.size % 2 = 1
      · have ho1 : ((s.size : Int).tmod 2) = 1 := by rw [Int.tmod_eq_emod_of_nonneg (by omega)]; omega
        go_wp2_with fail
        refine (oppositeOf_c x d hneg _).mono ?_
        rintro e w2' ⟨rfl, o2, o3, rfl⟩
        go_wp2_with (refine wpList_putRngV rfl _ _ _ rfl rfl (((HR2.out.alloc _).alloc o2).alloc o3) (by have := HL.out; unfold maxLen; omega) s rfl hsm hin (-x) d rfl ?_)
        intro w3 hR3 hG3
        have hSg := HSg.out
        rw [if_pos ho] at hSg
        go_wp2
        go_roundw
        case rel => exact ⟨_, _, cnt2, hR3, hSg, HB2.out.trans ((below3 w2 _ _ _).mono hz2 |>.trans (below_of_grown hG3 (fun g h => by cases h; omega) (by simp; omega)))⟩
        case measure => rw [hR3.left_eq, HR.out.left_eq]; exact hlt
      · have ho1 : ¬ ((s.size : Int).tmod 2) = 1 := by rw [Int.tmod_eq_emod_of_nonneg (by omega)]; omega
        go_wp2
        go_roundw
        case rel => exact ⟨_, _, cnt2, HR2.out.alloc _, HSe2.out ho, HB2.out.trans ((below1 w2 _).mono hz2)⟩
        case measure => rw [(HR2.out.alloc _).left_eq, HR.out.left_eq]; exact hlt
end Go.Proofs.YtoeednnkadmjpaaDoor
