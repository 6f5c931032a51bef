/-
  Fractions as exact quotients of small whole numbers: they fit, and depend on the quotient alone.
  The values of a group word's signature as exact quotients: a whole number over the factorial of the length. Products of such values always fit.
  The exponential of one letter, step by step: its powers, and their sum.
  Putting a term to values that are exact quotients; the terms that a number of a group word adds, one by one.
  The shares of a product of exact quotients, as they come one by one, in any order.
  A group word's signature with one number more, term by term, as the model makes it.
  The signature of a group word as exact quotients: it always fits.
-/
import Derived.Test.YtddfijlgehpjfaaGreatDoorPrM
import Derived.Test.YtddfijlgehpjfaaGreatDoorAddL
import Derived.Test.YtddfijlgehpjfaaGreatDoorPthZ
import Derived.Test.YtddfijlgehpjfaaGreatDoorSigS
import Derived.Test.YtddfijlgehpjfaaGreatDoorSerT
namespace Go.Proofs.YtddfijlgehpjfaaGreatDoor

theorem gi_low {n d : Int} (hd : 1 ≤ d) : gi (lowN n d) (lowD n d) = 1 ∧ 1 ≤ lowD n d ∧ lowD n d ≤ d ∧ (lowN n d).natAbs ≤ n.natAbs := by
  have hg : 1 ≤ gi n d := gi_pos (by omega)
  have h1 := gi_dvd_left n d
  have h2 := gi_dvd_right n d
  have hneg : ¬ d < 0 := by omega
  have eN : lowN n d = n / gi n d := by simp [lowN, hneg]
  have eD : lowD n d = d / gi n d := by simp [lowD, hneg]
  have hd2 : d / gi n d * gi n d = d := Int.ediv_mul_cancel h2
  have hn2 : n / gi n d * gi n d = n := Int.ediv_mul_cancel h1
  refine ⟨?_, ?_, ?_, ?_⟩
  · rw [eN, eD]
    unfold gi at hg ⊢
    have h3 : 0 < Int.gcd n d := by omega
    have := Int.gcd_ediv_gcd_ediv_gcd h3
    rw [this]; rfl
  · rw [eD]
    by_cases h : 0 < d / gi n d
    · omega
    · have : d / gi n d * gi n d ≤ 0 := Int.mul_nonpos_of_nonpos_of_nonneg (by omega) (by omega)
      omega
  · rw [eD]
    exact Int.ediv_le_self _ (by omega)
  · rw [eN]
    exact Int.natAbs_ediv_le_natAbs n (gi n d)
theorem low_ratio {n d n' d' : Int} (hd : 1 ≤ d) (hd' : 1 ≤ d') (h : n * d' = n' * d) : lowN n d = lowN n' d' ∧ lowD n d = lowD n' d' := by
  obtain ⟨g1, g2, _, _⟩ := gi_low (n := n') hd'
  refine low_unique g1 g2 (by omega) ?_
  have hc := low_cross (n := n') (d := d') (by omega)
  have : (n * lowD n' d') * d' = (lowN n' d' * d) * d' := by
    calc (n * lowD n' d') * d' = (n * d') * lowD n' d' := by ac_rfl
      _ = (n' * lowD n' d') * d := by rw [h]; ac_rfl
      _ = (lowN n' d' * d') * d := by rw [hc]
      _ = (lowN n' d' * d) * d' := by ac_rfl
  exact Int.eq_of_mul_eq_mul_right (by omega) this
theorem f_ratio {n d n' d' : Int} (hd : 1 ≤ d) (hd' : 1 ≤ d') (h : n * d' = n' * d) : fOk n d = fOk n' d' ∧ fN n d = fN n' d' ∧ fD n d = fD n' d' := by
  obtain ⟨e1, e2⟩ := low_ratio hd hd' h
  have e3 : fOk n d = fOk n' d' := by
    rw [fOk_of (by omega), fOk_of (by omega)]; unfold lowOk; rw [e1, e2]
  refine ⟨e3, ?_, ?_⟩
  · unfold fN; rw [e3, e1]
  · unfold fD; rw [e3, e2]
/-- a small quotient -/
def SmQ (g M : Int) : Prop := 1 ≤ M ∧ M ≤ 1000000000 ∧ g.natAbs ≤ 1000000000
def qF (g M : Int) : Int × Int := (fN g M, fD g M)
theorem q_ok {g M : Int} (h : SmQ g M) : fOk g M = true ∧ fN g M * M = g * fD g M ∧ isF (fN g M) (fD g M) = true ∧ 1 ≤ fD g M := by
  obtain ⟨h1, h2, h3⟩ := h
  obtain ⟨g1, g2, g3, g4⟩ := gi_low (n := g) h1
  have hok : fOk g M = true := by
    rw [fOk_of (by omega)]
    unfold lowOk isF
    simp only [decide_eq_true_eq]
    exact ⟨g2, by omega, by omega, by omega, g1⟩
  obtain ⟨e1, e2, _⟩ := low_yes hok
  refine ⟨hok, ?_, ?_, ?_⟩
  · rw [e1, e2]; exact low_cross (by omega)
  · rw [e1, e2]
    rw [fOk_of (by omega)] at hok
    exact hok
  · rw [e2]; exact g2
theorem q_zero {M : Int} (h : SmQ 0 M) : (qF 0 M).1 = 0 := by
  obtain ⟨_, h2, _, _⟩ := q_ok h
  rw [Int.zero_mul] at h2
  rcases Int.mul_eq_zero.1 h2 with h3 | h3
  · exact h3
  · have := h.1; omega
theorem q_nz {g M : Int} (h : SmQ g M) (hg : g ≠ 0) : (qF g M).1 ≠ 0 := fun h0 => by
  obtain ⟨_, h2, _, h4⟩ := q_ok h
  have h0' : fN g M = 0 := h0
  rw [h0', Int.zero_mul] at h2
  rcases Int.mul_eq_zero.1 h2.symm with h3 | h3
  · exact hg h3
  · omega
/-- a sum and a product of small quotients -/
theorem apS_q {ga g1 M1 g2 M2 c M : Int} (hM : M = M1 * M2 * c) (ha : SmQ ga M) (h1 : SmQ g1 M1) (h2 : SmQ g2 M2) (h12 : SmQ (g1 * g2) (M1 * M2)) (hs : SmQ (ga + c * (g1 * g2)) M) :
    apS (qF ga M).1 (qF ga M).2 (qF g1 M1).1 (qF g1 M1).2 (qF g2 M2).1 (qF g2 M2).2 = some (qF (ga + c * (g1 * g2)) M) := by
  obtain ⟨_, a2, _, a4⟩ := q_ok ha
  obtain ⟨_, b2, _, b4⟩ := q_ok h1
  obtain ⟨_, c2, _, c4⟩ := q_ok h2
  obtain ⟨d1, d2, _, d4⟩ := q_ok h12
  obtain ⟨s1, _, _, _⟩ := q_ok hs
  have hpos : 1 ≤ fD g1 M1 * fD g2 M2 := by
    have := Int.mul_le_mul b4 c4 (by omega) (by omega)
    simpa using this
  obtain ⟨r1, r2, r3⟩ := f_ratio (n := fN g1 M1 * fN g2 M2) (d := fD g1 M1 * fD g2 M2) (n' := g1 * g2) (d' := M1 * M2) hpos h12.1 (by
    calc (fN g1 M1 * fN g2 M2) * (M1 * M2) = (fN g1 M1 * M1) * (fN g2 M2 * M2) := by ac_rfl
      _ = (g1 * fD g1 M1) * (g2 * fD g2 M2) := by rw [b2, c2]
      _ = (g1 * g2) * (fD g1 M1 * fD g2 M2) := by ac_rfl)
  have hpos2 : 1 ≤ fD ga M * fD (g1 * g2) (M1 * M2) := by
    have := Int.mul_le_mul a4 d4 (by omega) (by omega)
    simpa using this
  obtain ⟨t1, t2, t3⟩ := f_ratio (n := fN ga M * fD (g1 * g2) (M1 * M2) + fN (g1 * g2) (M1 * M2) * fD ga M) (d := fD ga M * fD (g1 * g2) (M1 * M2)) (n' := ga + c * (g1 * g2)) (d' := M) hpos2 ha.1 (by
    have e1 : fN ga M * fD (g1 * g2) (M1 * M2) * M = ga * (fD ga M * fD (g1 * g2) (M1 * M2)) := by
      calc fN ga M * fD (g1 * g2) (M1 * M2) * M = (fN ga M * M) * fD (g1 * g2) (M1 * M2) := by ac_rfl
        _ = (ga * fD ga M) * fD (g1 * g2) (M1 * M2) := by rw [a2]
        _ = ga * (fD ga M * fD (g1 * g2) (M1 * M2)) := by rw [Int.mul_assoc]
    have e2 : fN (g1 * g2) (M1 * M2) * fD ga M * M = c * (g1 * g2) * (fD ga M * fD (g1 * g2) (M1 * M2)) := by
      calc fN (g1 * g2) (M1 * M2) * fD ga M * M = (fN (g1 * g2) (M1 * M2) * (M1 * M2)) * (fD ga M * c) := by rw [hM]; ac_rfl
        _ = (g1 * g2 * fD (g1 * g2) (M1 * M2)) * (fD ga M * c) := by rw [d2]
        _ = c * (g1 * g2) * (fD ga M * fD (g1 * g2) (M1 * M2)) := by ac_rfl
    rw [Int.add_mul, Int.add_mul, e1, e2])
  unfold qF
  simp only
  rw [apS_good (x := fN (g1 * g2) (M1 * M2)) (y := fD (g1 * g2) (M1 * M2)) (by rw [r1]; exact d1) r2 r3 (by rw [t1]; exact s1), t2, t3]
end Go.Proofs.YtddfijlgehpjfaaGreatDoor

namespace Go.Proofs.YtddfijlgehpjfaaGreatDoor

def facG : Nat → Int
  | 0 => 1
  | k + 1 => facG k * ((k : Int) + 1)
def chs : Nat → Nat → Int
  | _, 0 => 1
  | 0, _ + 1 => 0
  | n + 1, k + 1 => chs n k + chs n (k + 1)
def sumI (f : Nat → Int) : Nat → Int
  | 0 => 0
  | k + 1 => sumI f k + f k
theorem fac_chs : ∀ (n : Fin 6) (i : Fin 6), i.val ≤ n.val → facG n.val = facG i.val * facG (n.val - i.val) * chs n.val i.val := by decide +kernel
theorem fac_bd : ∀ (n : Fin 6), 1 ≤ facG n.val ∧ facG n.val ≤ 120 := by decide +kernel
theorem chs_nn : ∀ (n i : Fin 7), 0 ≤ chs n.val i.val := by decide +kernel
theorem chs_sum : ∀ (n : Fin 6) (k : Fin 13) (j : Fin 7), j.val ≤ n.val + 1 → sumI (fun i => chs n.val i * (k.val : Int) ^ i) j.val ≤ ((k.val : Int) + 1) ^ n.val := by decide +kernel
theorem pow_bd13 : ∀ (n : Fin 6) (k : Fin 14), 0 ≤ (k.val : Int) ^ n.val ∧ (k.val : Int) ^ n.val ≤ 371293 := by decide +kernel
theorem sumI_abs {f g : Nat → Int} : ∀ {k : Nat}, (∀ i, i < k → ((f i).natAbs : Int) ≤ g i) → ((sumI f k).natAbs : Int) ≤ sumI g k
  | 0, _ => by simp [sumI]
  | k + 1, h => by
    have h1 := sumI_abs (k := k) (fun i hi => h i (by omega))
    have h2 := h k (Nat.lt_succ_self k)
    have h3 := Int.natAbs_add_le (sumI f k) (f k)
    simp only [sumI]
    omega

/-- what stands at the words: a whole number over the factorial of the length -/
def RepV (ws : List ByteArray) (h : VF) (G : List UInt8 → Int) : Prop := ∀ s ∈ ws, h s = nzF (qF (G s.data.toList) (facG s.size))
/-- whole numbers of at most `k` to the power of the length -/
def BdG (G : List UInt8 → Int) (k : Nat) : Prop := ∀ m : List UInt8, m.length ≤ 5 → ((G m).natAbs : Int) ≤ (k : Int) ^ m.length
def mulG (G1 G2 : List UInt8 → Int) (m : List UInt8) : Int := sumI (fun i => chs m.length i * (G1 (m.take i) * G2 (m.drop i))) (m.length + 1)
theorem small_pow {k n : Nat} (hk : k ≤ 13) (hn : n ≤ 5) : 0 ≤ (k : Int) ^ n ∧ (k : Int) ^ n ≤ 371293 := pow_bd13 ⟨n, by omega⟩ ⟨k, by omega⟩
theorem fac_of {n : Nat} (hn : n ≤ 5) : 1 ≤ facG n ∧ facG n ≤ 120 := fac_bd ⟨n, by omega⟩
theorem mulG_part {G1 G2 : List UInt8 → Int} {k : Nat} (hk : k ≤ 12) (h1 : BdG G1 k) (h2 : BdG G2 1) {m : List UInt8} (hm : m.length ≤ 5) {j : Nat} (hj : j ≤ m.length + 1) :
    ((sumI (fun i => chs m.length i * (G1 (m.take i) * G2 (m.drop i))) j).natAbs : Int) ≤ ((k : Int) + 1) ^ m.length := by
  refine Int.le_trans (sumI_abs (g := fun i => chs m.length i * (k : Int) ^ i) fun i hi => ?_) (chs_sum ⟨m.length, by omega⟩ ⟨k, by omega⟩ ⟨j, by omega⟩ hj)
  have hi' : i ≤ m.length := by omega
  have a1 := h1 (m.take i) (by rw [List.length_take]; omega)
  have a2 := h2 (m.drop i) (by rw [List.length_drop]; omega)
  rw [List.length_take, Nat.min_eq_left hi'] at a1
  have a3 : ((G2 (m.drop i)).natAbs : Int) ≤ 1 := by
    rw [show ((1 : Nat) : Int) = 1 from rfl, Int.one_pow] at a2
    exact a2
  have hc := chs_nn ⟨m.length, by omega⟩ ⟨i, by omega⟩
  have hc' : ((chs m.length i).natAbs : Int) = chs m.length i := by have : 0 ≤ chs m.length i := hc; omega
  have hp := (small_pow (k := k) (n := i) (by omega) (by omega)).1
  rw [Int.natAbs_mul, Int.natAbs_mul]
  push_cast
  rw [hc']
  refine Int.mul_le_mul_of_nonneg_left ?_ hc
  have := Int.mul_le_mul a1 a3 (by omega) hp
  simpa using this
theorem mulG_bd {G1 G2 : List UInt8 → Int} {k : Nat} (hk : k ≤ 12) (h1 : BdG G1 k) (h2 : BdG G2 1) : BdG (mulG G1 G2) (k + 1) := fun m hm => by
  have := mulG_part hk h1 h2 hm (Nat.le_refl _)
  unfold mulG
  push_cast
  exact this

theorem q_nought {M : Int} (h : SmQ 0 M) : qF 0 M = (0, 1) := by
  obtain ⟨_, r2, r3⟩ := f_ratio (n := 0) (d := M) (n' := 0) (d' := 1) h.1 (by omega) (by omega)
  obtain ⟨_, s2, s3⟩ := isF_self isF_01
  unfold qF
  rw [r2, r3, s2, s3]
theorem list_ext (s : ByteArray) (i : Nat) : (s.extract 0 i).data.toList = s.data.toList.take i ∧ (s.extract i s.size).data.toList = s.data.toList.drop i := by
  constructor
  · simp
  · have e : (s.extract i s.size).data.toList = (s.data.toList.drop i).take (s.size - i) := by simp
    rw [e, List.take_of_length_le]
    rw [List.length_drop, list_size]
    exact Nat.le_refl _
theorem cutsUp_rep {f g : VF} {ws : List ByteArray} {G1 G2 : List UInt8 → Int} {k : Nat} (hk : k ≤ 12) (hf : RepV ws f G1) (hg : RepV ws g G2) (h1 : BdG G1 k) (h2 : BdG G2 1) {s : ByteArray} (hs : s.size ≤ 5)
    (hp : ∀ i, i ≤ s.size → s.extract 0 i ∈ ws ∧ s.extract i s.size ∈ ws) :
    ∀ j, j ≤ s.size + 1 → cutsUp f g s j = some (qF (sumI (fun i => chs s.data.toList.length i * (G1 (s.data.toList.take i) * G2 (s.data.toList.drop i))) j) (facG s.size))
  | 0, _ => by
    have hF := fac_of hs
    rw [show sumI (fun i => chs s.data.toList.length i * (G1 (s.data.toList.take i) * G2 (s.data.toList.drop i))) 0 = 0 from rfl, q_nought ⟨by omega, by omega, by omega⟩]
    rfl
  | j + 1, hj => by
    have ih := cutsUp_rep hk hf hg h1 h2 hs hp j (by omega)
    have hjs : j ≤ s.size := by omega
    have hm5 : s.data.toList.length ≤ 5 := by rw [list_size]; exact hs
    obtain ⟨p1, p2⟩ := hp j hjs
    have e1 := hf _ p1
    have e2 := hg _ p2
    obtain ⟨x1, x2⟩ := list_ext s j
    have z1 : (s.extract 0 j).size = j := by rw [← list_size, x1, List.length_take, list_size]; omega
    have z2 : (s.extract j s.size).size = s.size - j := by rw [← list_size, x2, List.length_drop, list_size]
    rw [x1, z1] at e1
    rw [x2, z2] at e2
    have b1 := h1 (s.data.toList.take j) (by rw [List.length_take]; omega)
    have b2 := h2 (s.data.toList.drop j) (by rw [List.length_drop]; omega)
    have l1 : (s.data.toList.take j).length = j := by rw [List.length_take, list_size]; omega
    have l2 : (s.data.toList.drop j).length = s.size - j := by rw [List.length_drop, list_size]
    have pj := mulG_part hk h1 h2 hm5 (j := j) (by rw [list_size]; omega)
    have pj1 := mulG_part hk h1 h2 hm5 (j := j + 1) (by rw [list_size]; omega)
    rw [l1] at b1
    rw [l2] at b2
    have q1 := small_pow (k := k) (n := j) (by omega) (by omega)
    have q2 := small_pow (k := 1) (n := s.size - j) (by omega) (by omega)
    have q3 := small_pow (k := k + 1) (n := s.data.toList.length) (by omega) hm5
    push_cast at q3 q2 b2
    have f1 := fac_of (n := j) (by omega)
    have f2 := fac_of (n := s.size - j) (by omega)
    have f3 := fac_of hs
    rw [cutsUp_next ih]
    have hlen : s.data.toList.length = s.size := list_size s
    simp only [sumI] at pj1 ⊢
    generalize hA : sumI (fun i => chs s.data.toList.length i * (G1 (s.data.toList.take i) * G2 (s.data.toList.drop i))) j = A at *
    generalize hX : G1 (s.data.toList.take j) = X at *
    generalize hY : G2 (s.data.toList.drop j) = Y at *
    rw [hlen] at pj1 pj q3 ⊢
    by_cases hX0 : X = 0
    · subst hX0
      have hn : f (s.extract 0 j) = none := by rw [e1]; exact nzF_0 (q_zero ⟨by omega, by omega, by omega⟩)
      rw [cutStep_1 hn]
      simp
    · by_cases hY0 : Y = 0
      · subst hY0
        have hn : g (s.extract j s.size) = none := by rw [e2]; exact nzF_0 (q_zero ⟨by omega, by omega, by omega⟩)
        rw [cutStep_2 hn]
        simp
      · have sX : SmQ X (facG j) := ⟨by omega, by omega, by omega⟩
        have sY : SmQ Y (facG (s.size - j)) := ⟨by omega, by omega, by omega⟩
        have hx : f (s.extract 0 j) = some (qF X (facG j)) := by rw [e1]; exact nzF_1 (q_nz sX hX0)
        have hy : g (s.extract j s.size) = some (qF Y (facG (s.size - j))) := by rw [e2]; exact nzF_1 (q_nz sY hY0)
        rw [cutStep_3 hx hy]
        have hfm : 1 ≤ facG j * facG (s.size - j) ∧ facG j * facG (s.size - j) ≤ 14400 := by
          constructor
          · have := Int.mul_le_mul f1.1 f2.1 (by omega) (by omega)
            simpa using this
          · have := Int.mul_le_mul f1.2 f2.2 (by omega) (by omega)
            simpa using this
        have hY1 : Y.natAbs ≤ 1 := by
          have : (1 : Int) ^ (s.size - j) = 1 := Int.one_pow
          omega
        have hXY : (X * Y).natAbs ≤ 371293 := by
          rw [Int.natAbs_mul]
          have := Nat.mul_le_mul (Nat.le_refl X.natAbs) hY1
          omega
        exact apS_q (c := chs s.size j) (fac_chs ⟨s.size, by omega⟩ ⟨j, by omega⟩ hjs) ⟨by omega, by omega, by omega⟩ sX sY ⟨by omega, by omega, by omega⟩ ⟨by omega, by omega, by omega⟩
theorem prodV_rep {f g : VF} {ws : List ByteArray} {G1 G2 : List UInt8 → Int} {k : Nat} (hk : k ≤ 12) (hf : RepV ws f G1) (hg : RepV ws g G2) (h1 : BdG G1 k) (h2 : BdG G2 1) (hs : ∀ s ∈ ws, s.size ≤ 5)
    (hp : ∀ s ∈ ws, ∀ i, i ≤ s.size → s.extract 0 i ∈ ws ∧ s.extract i s.size ∈ ws) : ∃ h, prodV f g ws = some h ∧ RepV ws h (mulG G1 G2) := by
  have hat : ∀ s ∈ ws, prodAt f g s = some (qF (mulG G1 G2 s.data.toList) (facG s.size)) := fun s hs' => by
    unfold prodAt
    rw [cutsUp_rep hk hf hg h1 h2 (hs s hs') (hp s hs') _ (Nat.le_refl _)]
    unfold mulG
    rw [list_size]
  have hok : prodOk f g ws = true := by
    unfold prodOk
    rw [List.all_eq_true]
    intro s hs'
    rw [hat s hs']
    rfl
  refine ⟨_, prodV_some hok, fun s hs' => ?_⟩
  unfold onL
  rw [if_pos (inL_iff.2 hs'), prodF_some (hat s hs')]
end Go.Proofs.YtddfijlgehpjfaaGreatDoor

namespace Go.Proofs.YtddfijlgehpjfaaGreatDoor

theorem RepV.congr {ws : List ByteArray} {h : VF} {G H : List UInt8 → Int} (k : RepV ws h G) (hs : ∀ s ∈ ws, s.size ≤ 5) (he : ∀ m : List UInt8, m.length ≤ 5 → G m = H m) : RepV ws h H := fun s hs' => by
  rw [k s hs', he _ (by rw [list_size]; exact hs s hs')]
theorem sumI_single {f : Nat → Int} {j : Nat} : ∀ {K : Nat}, j < K → (∀ i, i < K → i ≠ j → f i = 0) → sumI f K = f j
  | 0, h, _ => absurd h (Nat.not_lt_zero _)
  | K + 1, h, h0 => by
    simp only [sumI]
    by_cases e : j = K
    · subst e
      have hz : ∀ {k : Nat}, k ≤ j → sumI f k = 0 := fun {k} => by
        induction k with
        | zero => intro _; rfl
        | succ k ih =>
          intro hk
          simp only [sumI]
          rw [ih (by omega), h0 k (by omega) (by omega)]
          rfl
      rw [hz (Nat.le_refl _)]
      omega
    · rw [sumI_single (K := K) (by omega) (fun i hi hn => h0 i (by omega) hn), h0 K (by omega) (fun e2 => e e2.symm)]
      omega
theorem sumI_zero {f : Nat → Int} : ∀ {K : Nat}, (∀ i, i < K → f i = 0) → sumI f K = 0
  | 0, _ => rfl
  | K + 1, h => by
    simp only [sumI]
    rw [sumI_zero (K := K) (fun i hi => h i (by omega)), h K (by omega)]
    rfl
/-- the values of one letter, of its powers, of its exponential -/
def yG (c : UInt8) (sg : Int) (m : List UInt8) : Int := if m = [c] then sg else 0
def pwG (c : UInt8) (sg : Int) (k : Nat) (m : List UInt8) : Int := if m = List.replicate k c then sg ^ k * facG k else 0
def eG (c : UInt8) (sg : Int) (m : List UInt8) : Int := if m = List.replicate m.length c then sg ^ m.length else 0
def Sg (sg : Int) : Prop := sg = 1 ∨ sg = -1
theorem Sg.abs {sg : Int} (h : Sg sg) : ∀ k : Nat, (sg ^ k).natAbs = 1
  | 0 => by simp
  | k + 1 => by
    rw [Int.pow_succ, Int.natAbs_mul, Sg.abs h k]
    rcases h with rfl | rfl <;> rfl
theorem fac_pow : ∀ k : Fin 6, facG k.val ≤ (k.val : Int) ^ k.val := by decide +kernel
theorem yG_bd {c : UInt8} {sg : Int} (h : Sg sg) : BdG (yG c sg) 1 := fun m _ => by
  rw [show ((1 : Nat) : Int) = 1 from rfl, Int.one_pow]
  unfold yG
  split
  · have := h.abs 1; rw [Int.pow_one] at this; omega
  · simp
theorem eG_bd {c : UInt8} {sg : Int} (h : Sg sg) : BdG (eG c sg) 1 := fun m _ => by
  rw [show ((1 : Nat) : Int) = 1 from rfl, Int.one_pow]
  unfold eG
  split
  · have := h.abs m.length; omega
  · simp
theorem pwG_bd {c : UInt8} {sg : Int} (h : Sg sg) {k : Nat} (hk : k ≤ 5) : BdG (pwG c sg k) k := fun m hm => by
  unfold pwG
  split
  · rename_i e
    have hl : m.length = k := by rw [e]; simp
    rw [hl, Int.natAbs_mul, h.abs k, Nat.one_mul]
    have h1 := fac_pow ⟨k, by omega⟩
    have h2 := fac_of hk
    simp only at h1
    omega
  · have := (small_pow (k := k) (n := m.length) (by omega) hm).1
    simpa using this
theorem chs_succ : ∀ k : Fin 6, chs (k.val + 1) k.val = (k.val : Int) + 1 := by decide +kernel
theorem mulG_pw {c : UInt8} {sg : Int} {k : Nat} (hk : k ≤ 4) (m : List UInt8) (hm : m.length ≤ 5) : mulG (pwG c sg k) (yG c sg) m = pwG c sg (k + 1) m := by
  unfold mulG
  rcases List.eq_nil_or_concat m with rfl | ⟨t, x, rfl⟩
  · rw [sumI_zero]
    · unfold pwG
      rw [if_neg]
      intro e
      have := congrArg List.length e
      simp at this
    · intro i _
      simp [yG]
  · rw [List.concat_eq_append] at *
    have hl : (t ++ [x]).length = t.length + 1 := by simp
    rw [hl, sumI_single (j := t.length) (by omega)]
    · have e1 : (t ++ [x]).take t.length = t := by simp
      have e2 : (t ++ [x]).drop t.length = [x] := by simp
      rw [e1, e2]
      unfold pwG yG
      by_cases hx : x = c
      · subst hx
        rw [if_pos rfl]
        by_cases ht : t = List.replicate k x
        · have htl : t.length = k := by rw [ht]; simp
          have hk1 := chs_succ ⟨k, by omega⟩
          simp only at hk1
          rw [if_pos ht, if_pos (by rw [ht]; exact List.replicate_succ'.symm), htl, hk1, Int.pow_succ]
          simp only [facG]
          ac_rfl
        · rw [if_neg ht, if_neg]
          · simp
          · intro e
            rw [List.replicate_succ'] at e
            exact ht (List.append_inj_left' e rfl)
      · have hxc : ¬ [x] = [c] := fun e => hx (List.cons.inj e).1
        have hh : ¬ t ++ [x] = List.replicate (k + 1) c := fun e => by
          rw [List.replicate_succ'] at e
          exact hxc (List.append_inj_right' e rfl)
        rw [if_neg hxc, if_neg hh]
        simp
    · intro i hi hne
      have : yG c sg ((t ++ [x]).drop i) = 0 := by
        unfold yG
        rw [if_neg]
        intro e
        have := congrArg List.length e
        rw [List.length_drop, hl] at this
        simp at this
        omega
      rw [this]
      simp
/-- a power more -/
theorem pow_rep {c : UInt8} {sg : Int} (h : Sg sg) {k : Nat} (hk : k ≤ 4) {p y : VF} {ws : List ByteArray} (hp : RepV ws p (pwG c sg k)) (hy : RepV ws y (yG c sg)) (hs : ∀ s ∈ ws, s.size ≤ 5)
    (hcl : ∀ s ∈ ws, ∀ i, i ≤ s.size → s.extract 0 i ∈ ws ∧ s.extract i s.size ∈ ws) : ∃ q, prodV p y ws = some q ∧ RepV ws q (pwG c sg (k + 1)) := by
  obtain ⟨q, h1, h2⟩ := prodV_rep (k := k) (by omega) hp hy (pwG_bd h (by omega)) (yG_bd h) hs hcl
  exact ⟨q, h1, h2.congr hs (fun m hm => mulG_pw hk m hm)⟩

theorem addK_no0 {g : VF} {a b : Int} : ∀ {us : List ByteArray} {f : VF}, (∀ s ∈ us, g s = none) → addK g a b us f = some f
  | [], _, _ => rfl
  | s :: us, f, h => by
    show (addStep g a b f s).bind (addK g a b us) = some f
    have : addStep g a b f s = some f := by unfold addStep; rw [h s (List.mem_cons_self ..)]
    rw [this]
    exact addK_no0 (fun t ht => h t (List.mem_cons_of_mem _ ht))
/-- the exponential's first `k` powers: what stands at the words of fewer letters -/
def exG (c : UInt8) (sg : Int) (k : Nat) (m : List UInt8) : Int := if m.length < k then eG c sg m else 0
theorem add_rep {c : UInt8} {sg : Int} (h : Sg sg) {k : Nat} (hk : k ≤ 5) {f p : VF} {ws : List ByteArray} (hnd : ws.Nodup) (hf : RepV ws f (exG c sg k)) (hp : RepV ws p (pwG c sg k)) (hin : (⟨(List.replicate k c).toArray⟩ : ByteArray) ∈ ws) :
    ∃ q, addK p 1 (facG k) ws f = some q ∧ RepV ws q (exG c sg (k + 1)) := by
  have hF := fac_of hk
  have hsk := h.abs k
  obtain ⟨us, vs, hws⟩ := List.append_of_mem hin
  obtain ⟨s0, hs0⟩ : ∃ s0 : ByteArray, s0 = ⟨(List.replicate k c).toArray⟩ := ⟨_, rfl⟩
  rw [← hs0] at hws hin
  have hl0 : s0.data.toList = List.replicate k c := by rw [hs0]
  have hz0 : s0.size = k := by rw [← list_size, hl0]; simp
  have huniq : ∀ s ∈ ws, s ≠ s0 → p s = none := fun s hs hne => by
    rw [hp s hs]
    have : pwG c sg k s.data.toList = 0 := by
      unfold pwG
      rw [if_neg]
      intro e
      apply hne
      rw [hs0]
      apply ByteArray.ext
      apply Array.toList_inj.1
      rw [e]
    have hfs : s.size ≤ 5 ∨ ¬ s.size ≤ 5 := by omega
    rw [this]
    unfold nzF qF
    rw [if_pos]
    unfold fN
    split
    · unfold lowN
      split <;> simp
    · rfl
  have hnu : ∀ s ∈ us, s ≠ s0 := fun s hs e => by
    rw [hws] at hnd
    have := (List.nodup_append.1 hnd).2.2
    exact this s hs s0 (List.mem_cons_self ..) e
  have hnv : ∀ s ∈ vs, s ≠ s0 := fun s hs e => by
    rw [hws] at hnd
    have := (List.nodup_append.1 hnd).2.1
    have h2 := (List.nodup_cons.1 this).1
    rw [← e] at h2
    exact h2 hs
  have e1 : addK p 1 (facG k) us f = some f := addK_no0 fun s hs => huniq s (by rw [hws]; simp [hs]) (hnu s hs)
  have hfs0 : f s0 = none := by
    rw [hf s0 hin]
    have : exG c sg k s0.data.toList = 0 := by
      unfold exG
      rw [if_neg]
      rw [list_size, hz0]
      omega
    rw [this]
    rw [hz0]
    exact nzF_0 (q_zero ⟨by omega, by omega, by omega⟩)
  have sv : SmQ (sg ^ k) 1 := ⟨by omega, by omega, by omega⟩
  have hq1 : qF (sg ^ k * facG k) (facG k) = qF (sg ^ k) 1 := by
    obtain ⟨_, r2, r3⟩ := f_ratio (n := sg ^ k * facG k) (d := facG k) (n' := sg ^ k) (d' := 1) (by omega) (by omega) (by rw [Int.mul_one])
    unfold qF
    rw [r2, r3]
  have hne0 : sg ^ k ≠ 0 := fun e => by rw [e] at hsk; simp at hsk
  have hps0 : p s0 = some (qF (sg ^ k) 1) := by
    rw [hp s0 hin, hz0]
    have : pwG c sg k s0.data.toList = sg ^ k * facG k := by unfold pwG; rw [if_pos hl0]
    rw [this, hq1]
    exact nzF_1 (q_nz sv hne0)
  have hone : qF 1 (facG k) = (1, facG k) := by
    have : isF 1 (facG k) = true := by
      unfold isF gi
      simp only [decide_eq_true_eq]
      refine ⟨by omega, by omega, by omega, by omega, ?_⟩
      simp
    obtain ⟨_, r2, r3⟩ := isF_self this
    unfold qF
    rw [r2, r3]
  have hz : qF 0 (facG k) = (0, 1) := q_nought ⟨by omega, by omega, by omega⟩
  have hap := apS_q (ga := 0) (g1 := sg ^ k) (M1 := 1) (g2 := 1) (M2 := facG k) (c := 1) (M := facG k) (by omega) ⟨by omega, by omega, by omega⟩ sv ⟨by omega, by omega, by omega⟩ ⟨by omega, by omega, by rw [Int.mul_one]; omega⟩ ⟨by omega, by omega, by rw [Int.mul_one, Int.one_mul, Int.zero_add]; omega⟩
  rw [hz, hone] at hap
  have hst : addStep p 1 (facG k) f s0 = some (setF f s0 (nzF (qF (sg ^ k) (facG k)))) := by
    unfold addStep
    rw [hps0]
    simp only
    rw [valF_none hfs0]
    have : (0 : Int) + 1 * (sg ^ k * 1) = sg ^ k := by omega
    rw [this] at hap
    rw [hap]
    rfl
  have e2 : addK p 1 (facG k) (s0 :: vs) f = some (setF f s0 (nzF (qF (sg ^ k) (facG k)))) := by
    show (addStep p 1 (facG k) f s0).bind (addK p 1 (facG k) vs) = _
    rw [hst]
    exact addK_no0 fun s hs => huniq s (by rw [hws]; simp [hs]) (hnv s hs)
  refine ⟨setF f s0 (nzF (qF (sg ^ k) (facG k))), ?_, fun s hs => ?_⟩
  · have e3 : addK p 1 (facG k) ws f = addK p 1 (facG k) (us ++ s0 :: vs) f := by rw [← hws]
    rw [e3, addK_app, e1]
    exact e2
  · unfold setF
    by_cases e : s = s0
    · subst e
      rw [if_pos rfl, hz0]
      have : exG c sg (k + 1) s.data.toList = sg ^ k := by
        unfold exG
        rw [if_pos (by rw [list_size, hz0]; omega)]
        unfold eG
        rw [list_size, hz0, if_pos hl0]
      rw [this]
    · rw [if_neg e, hf s hs]
      congr 2
      unfold exG
      by_cases h1 : s.data.toList.length < k
      · rw [if_pos h1, if_pos (by omega)]
      · rw [if_neg h1]
        by_cases h2 : s.data.toList.length < k + 1
        · rw [if_pos h2]
          unfold eG
          rw [if_neg]
          intro e3
          apply e
          rw [hs0]
          apply ByteArray.ext
          apply Array.toList_inj.1
          have : s.data.toList.length = k := by omega
          rw [this] at e3
          rw [e3]
        · rw [if_neg h2]
end Go.Proofs.YtddfijlgehpjfaaGreatDoor

namespace Go.Proofs.YtddfijlgehpjfaaGreatDoor

theorem plus_q {ga g M1 c M : Int} (hM : M = M1 * c) (ha : SmQ ga M) (h1 : SmQ g M1) (hs : SmQ (ga + c * g) M) :
    fOk ((qF ga M).1 * (qF g M1).2 + (qF g M1).1 * (qF ga M).2) ((qF ga M).2 * (qF g M1).2) = true ∧
    (fN ((qF ga M).1 * (qF g M1).2 + (qF g M1).1 * (qF ga M).2) ((qF ga M).2 * (qF g M1).2), fD ((qF ga M).1 * (qF g M1).2 + (qF g M1).1 * (qF ga M).2) ((qF ga M).2 * (qF g M1).2)) = qF (ga + c * g) M := by
  obtain ⟨_, a2, _, a4⟩ := q_ok ha
  obtain ⟨_, b2, _, b4⟩ := q_ok h1
  obtain ⟨s1, _, _, _⟩ := q_ok hs
  have hpos2 : 1 ≤ fD ga M * fD g M1 := by
    have := Int.mul_le_mul a4 b4 (by omega) (by omega)
    simpa using this
  obtain ⟨t1, t2, t3⟩ := f_ratio (n := fN ga M * fD g M1 + fN g M1 * fD ga M) (d := fD ga M * fD g M1) (n' := ga + c * g) (d' := M) hpos2 ha.1 (by
    have e1 : fN ga M * fD g M1 * M = ga * (fD ga M * fD g M1) := by
      calc fN ga M * fD g M1 * M = (fN ga M * M) * fD g M1 := by ac_rfl
        _ = (ga * fD ga M) * fD g M1 := by rw [a2]
        _ = ga * (fD ga M * fD g M1) := by rw [Int.mul_assoc]
    have e2 : fN g M1 * fD ga M * M = c * g * (fD ga M * fD g M1) := by
      calc fN g M1 * fD ga M * M = (fN g M1 * M1) * (fD ga M * c) := by rw [hM]; ac_rfl
        _ = (g * fD g M1) * (fD ga M * c) := by rw [b2]
        _ = c * g * (fD ga M * fD g M1) := by ac_rfl
    rw [Int.add_mul, Int.add_mul, e1, e2])
  unfold qF
  simp only
  exact ⟨by rw [t1]; exact s1, by rw [t2, t3]⟩
theorem nzF_q0 {M : Int} (h : SmQ 0 M) : nzF (qF 0 M) = none := nzF_0 (q_zero h)
/-- the state's whole numbers with one share more, at one word -/
def addG (F : List UInt8 → Int) (m0 : List UInt8) (x : Int) (m : List UInt8) : Int := if m = m0 then F m + x else F m
theorem put_rep {ws : List ByteArray} {f : VF} {F : List UInt8 → Int} (hf : RepV ws f F) {s : ByteArray} (hs : s ∈ ws) {g M1 c : Int} (hM : facG s.size = M1 * c) (ha : SmQ (F s.data.toList) (facG s.size)) (h1 : SmQ g M1) (hsum : SmQ (F s.data.toList + c * g) (facG s.size)) :
    ∃ q, putF f s (qF g M1).1 (qF g M1).2 = some q ∧ RepV ws q (addG F s.data.toList (c * g)) := by
  obtain ⟨p1, p2⟩ := plus_q hM ha h1 hsum
  have hrep : RepV ws (setF f s (nzF (qF (F s.data.toList + c * g) (facG s.size)))) (addG F s.data.toList (c * g)) := fun t ht => by
    unfold setF addG
    by_cases e : t = s
    · subst e
      rw [if_pos rfl, if_pos rfl]
    · rw [if_neg e, if_neg (fun h => e (ByteArray.ext (Array.toList_inj.1 h)))]
      exact hf t ht
  have hv := hf s hs
  unfold putF
  by_cases h0 : F s.data.toList = 0
  · have hn : f s = none := by rw [hv, h0]; rw [h0] at ha; exact nzF_q0 ha
    rw [hn]
    refine ⟨_, rfl, ?_⟩
    rw [h0, Int.zero_add] at hrep
    have hcM : c ≠ 0 := fun e => by
      rw [e, Int.mul_zero] at hM
      have := ha.1
      omega
    have hcp : 1 ≤ c := by
      have h2 := ha.1
      have h3 := h1.1
      rcases Int.lt_trichotomy c 0 with h | h | h
      · have := Int.mul_neg_of_pos_of_neg (a := M1) (b := c) (by omega) h
        omega
      · exact absurd h hcM
      · omega
    have hq : qF (c * g) (facG s.size) = qF g M1 := by
      obtain ⟨_, r2, r3⟩ := f_ratio (n := c * g) (d := facG s.size) (n' := g) (d' := M1) ha.1 h1.1 (by rw [hM]; ac_rfl)
      unfold qF
      rw [r2, r3]
    rw [hq] at hrep
    exact hrep
  · have hn : f s = some (qF (F s.data.toList) (facG s.size)) := by rw [hv]; exact nzF_1 (q_nz ha h0)
    rw [hn]
    simp only
    rw [if_pos p1, p2]
    exact ⟨_, rfl, hrep⟩
end Go.Proofs.YtddfijlgehpjfaaGreatDoor

namespace Go.Proofs.YtddfijlgehpjfaaGreatDoor

/-- the shares that have come: of beginnings, at lengths -/
def parG (G1 G2 : List UInt8 → Int) (Dn : List UInt8 → Nat → Bool) (m : List UInt8) : Int :=
  sumI (fun p => if Dn (m.take p) m.length = true then chs m.length p * (G1 (m.take p) * G2 (m.drop p)) else 0) (m.length + 1)
theorem parG_bd {G1 G2 : List UInt8 → Int} {Dn : List UInt8 → Nat → Bool} {k : Nat} (hk : k ≤ 12) (h1 : BdG G1 k) (h2 : BdG G2 1) : BdG (parG G1 G2 Dn) (k + 1) := fun m hm => by
  unfold parG
  push_cast
  refine Int.le_trans (sumI_abs (g := fun i => chs m.length i * (k : Int) ^ i) fun i hi => ?_) (chs_sum ⟨m.length, by omega⟩ ⟨k, by omega⟩ ⟨m.length + 1, by omega⟩ (Nat.le_refl _))
  have hi' : i ≤ m.length := by omega
  have a1 := h1 (m.take i) (by rw [List.length_take]; omega)
  have a2 := h2 (m.drop i) (by rw [List.length_drop]; omega)
  rw [List.length_take, Nat.min_eq_left hi'] at a1
  have a3 : ((G2 (m.drop i)).natAbs : Int) ≤ 1 := by
    rw [show ((1 : Nat) : Int) = 1 from rfl, Int.one_pow] at a2
    exact a2
  have hc := chs_nn ⟨m.length, by omega⟩ ⟨i, by omega⟩
  have hc0 : 0 ≤ chs m.length i := hc
  have hc' : ((chs m.length i).natAbs : Int) = chs m.length i := by omega
  have hp := (small_pow (k := k) (n := i) (by omega) (by omega)).1
  split
  · rw [Int.natAbs_mul, Int.natAbs_mul]
    push_cast
    rw [hc']
    refine Int.mul_le_mul_of_nonneg_left ?_ hc0
    have := Int.mul_le_mul a1 a3 (by omega) hp
    simpa using this
  · have := Int.mul_nonneg hc0 hp
    simpa using this
theorem sumI_same {f g : Nat → Int} : ∀ {K : Nat}, (∀ i, i < K → f i = g i) → sumI f K = sumI g K
  | 0, _ => rfl
  | K + 1, h => by
    simp only [sumI]
    rw [sumI_same (K := K) (fun i hi => h i (by omega)), h K (by omega)]
theorem sumI_one {f g : Nat → Int} {x : Int} {j : Nat} : ∀ {K : Nat}, j < K → g j = f j + x → (∀ i, i < K → i ≠ j → g i = f i) → sumI g K = sumI f K + x
  | 0, h, _, _ => absurd h (Nat.not_lt_zero _)
  | K + 1, h, hj, h0 => by
    simp only [sumI]
    by_cases e : j = K
    · subst e
      rw [sumI_same (f := g) (g := f) (fun i hi => h0 i (by omega) (by omega)), hj]
      omega
    · rw [sumI_one (K := K) (by omega) hj (fun i hi hn => h0 i (by omega) hn), h0 K (by omega) (fun e2 => e e2.symm)]
      omega
/-- one share more: of the beginning `u`, at words of `u.length + j` letters -/
theorem parG_add {G1 : List UInt8 → Int} {c : UInt8} {sg : Int} {Dn Dn' : List UInt8 → Nat → Bool} {u : List UInt8} {j : Nat} (hno : Dn u (u.length + j) = false) (hyes : Dn' u (u.length + j) = true) (hot : ∀ v L, (v ≠ u ∨ L ≠ u.length + j) → Dn' v L = Dn v L) (m : List UInt8) :
    parG G1 (eG c sg) Dn' m = addG (parG G1 (eG c sg) Dn) (u ++ List.replicate j c) (chs (u.length + j) u.length * (G1 u * sg ^ j)) m := by
  unfold addG parG
  by_cases hm : m = u ++ List.replicate j c
  · rw [if_pos hm]
    have hl : m.length = u.length + j := by rw [hm]; simp
    have ht : m.take u.length = u := by rw [hm]; simp
    have hd : m.drop u.length = List.replicate j c := by rw [hm]; simp
    refine sumI_one (j := u.length) (by omega) ?_ fun i hi hne => ?_
    · rw [ht, hd, hl, if_pos hyes, if_neg (by rw [hno]; simp)]
      have : eG c sg (List.replicate j c) = sg ^ j := by unfold eG; rw [List.length_replicate, if_pos rfl]
      rw [this]
      omega
    · rw [hot _ _ (.inl (fun e => hne (by
        have := congrArg List.length e
        rw [List.length_take] at this
        omega)))]
  · rw [if_neg hm]
    refine sumI_same fun i hi => ?_
    by_cases hu : m.take i = u ∧ m.length = u.length + j
    · obtain ⟨hu1, hu2⟩ := hu
      have hi2 : i = u.length := by
        have := congrArg List.length hu1
        rw [List.length_take] at this
        omega
      have he : eG c sg (m.drop i) = 0 := by
        unfold eG
        rw [if_neg]
        intro e
        apply hm
        have hdl : (m.drop i).length = j := by rw [List.length_drop]; omega
        rw [hdl] at e
        rw [← List.take_append_drop i m, hu1, e]
      rw [he]
      simp
    · rw [hot _ _ (by
        by_cases h1 : m.take i = u
        · exact .inr (fun h2 => hu ⟨h1, h2⟩)
        · exact .inl h1)]
theorem parG_none {G1 G2 : List UInt8 → Int} {Dn : List UInt8 → Nat → Bool} {m : List UInt8} (h : ∀ p, p ≤ m.length → Dn (m.take p) m.length = false) : parG G1 G2 Dn m = 0 := by
  unfold parG
  refine sumI_zero fun p hp => ?_
  rw [h p (by omega)]
  simp
theorem parG_all {G1 G2 : List UInt8 → Int} {Dn : List UInt8 → Nat → Bool} {m : List UInt8} (h : ∀ p, p ≤ m.length → Dn (m.take p) m.length = true ∨ G1 (m.take p) = 0) : parG G1 G2 Dn m = mulG G1 G2 m := by
  unfold parG mulG
  refine sumI_same fun p hp => ?_
  rcases h p (by omega) with h1 | h1
  · rw [if_pos h1]
  · rw [h1]; simp
theorem parG_congr {G1 G2 : List UInt8 → Int} {Dn Dn' : List UInt8 → Nat → Bool} {m : List UInt8} (h : ∀ p, p ≤ m.length → Dn (m.take p) m.length = Dn' (m.take p) m.length) : parG G1 G2 Dn m = parG G1 G2 Dn' m := by
  unfold parG
  refine sumI_same fun p hp => ?_
  rw [h p (by omega)]

/-- which shares have come when `i` terms are through, and `j` words of the next one -/
def dnB (us : List (List UInt8)) (i j : Nat) (v : List UInt8) (L : Nat) : Bool := decide (v ∈ us.take i) || (decide (us[i]? = some v) && decide (L < v.length + j))
theorem dnB_start (us : List (List UInt8)) (v : List UInt8) (L : Nat) (h : v.length ≤ L) : dnB us 0 0 v L = false := by
  unfold dnB
  simp
  omega
theorem dnB_step {us : List (List UInt8)} (hnd : us.Nodup) {i j : Nat} (hi : i < us.length) :
    dnB us i j us[i] (us[i].length + j) = false ∧ dnB us i (j + 1) us[i] (us[i].length + j) = true ∧ ∀ v L, (v ≠ us[i] ∨ L ≠ us[i].length + j) → dnB us i (j + 1) v L = dnB us i j v L := by
  have hni : us[i] ∉ us.take i := fun h => by
    obtain ⟨q, hq, e⟩ := List.mem_iff_getElem.1 h
    rw [List.length_take] at hq
    rw [List.getElem_take] at e
    have := (List.getElem_inj hnd).1 e
    omega
  have hg : us[i]? = some us[i] := List.getElem?_eq_getElem hi
  refine ⟨?_, ?_, fun v L h => ?_⟩
  · unfold dnB
    rw [decide_eq_false hni, hg]
    simp
  · unfold dnB
    rw [hg]
    simp
  · unfold dnB
    congr 1
    by_cases hv : v = us[i]
    · subst hv
      have hL : L ≠ us[i].length + j := by
        rcases h with h | h
        · exact absurd rfl h
        · exact h
      congr 1
      apply decide_eq_decide.2
      omega
    · have : ¬ us[i]? = some v := by
        rw [hg]
        intro e
        exact hv (Option.some.inj e).symm
      rw [decide_eq_false this]
      simp
theorem dnB_next {us : List (List UInt8)} {i j N : Nat} (hi : i < us.length) (hj : N < us[i].length + j) {v : List UInt8} {L : Nat} (hL : L ≤ N) : dnB us i j v L = dnB us (i + 1) 0 v L ∨ v.length > L := by
  by_cases hvL : v.length > L
  · exact .inr hvL
  · left
    have hg : us[i]? = some us[i] := List.getElem?_eq_getElem hi
    have e2 : decide (L < v.length + 0) = false := decide_eq_false (by omega)
    unfold dnB
    rw [e2, hg, Bool.and_false, Bool.or_false]
    by_cases hv : v = us[i]
    · subst hv
      have hin : us[i] ∈ us.take (i + 1) := by rw [List.take_succ_eq_append_getElem hi]; exact List.mem_append_right _ (List.mem_singleton.2 rfl)
      rw [decide_eq_true hin, decide_eq_true (show L < us[i].length + j by omega), decide_eq_true rfl, Bool.and_true, Bool.or_true]
    · have hiff : v ∈ us.take i ↔ v ∈ us.take (i + 1) := by
        rw [List.take_succ_eq_append_getElem hi]
        constructor
        · intro h; exact List.mem_append_left _ h
        · intro h
          rcases List.mem_append.1 h with h | h
          · exact h
          · exact absurd (List.mem_singleton.1 h) hv
      have h1 : ¬ some us[i] = some v := fun e => hv (Option.some.inj e).symm
      rw [decide_eq_false h1, Bool.false_and, Bool.or_false]
      exact decide_eq_decide.2 hiff
theorem dnB_end (us : List (List UInt8)) {i : Nat} (hi : us.length ≤ i) (v : List UInt8) (L : Nat) : dnB us i 0 v L = decide (v ∈ us) := by
  unfold dnB
  rw [List.take_of_length_le hi, List.getElem?_eq_none hi]
  simp
end Go.Proofs.YtddfijlgehpjfaaGreatDoor

namespace Go.Proofs.YtddfijlgehpjfaaGreatDoor

def wrd (l : List UInt8) : ByteArray := ⟨l.toArray⟩
theorem wrd_list (l : List UInt8) : (wrd l).data.toList = l := by simp [wrd]
theorem wrd_size (l : List UInt8) : (wrd l).size = l.length := by rw [← list_size, wrd_list]
theorem wrd_of (s : ByteArray) : wrd s.data.toList = s := ByteArray.ext (Array.toList_inj.1 (wrd_list _))
theorem nzF_out {p q : Int × Int} (h : nzF p = some q) : p = q ∧ p.1 ≠ 0 := by
  unfold nzF at h
  split at h
  · cases h
  · rename_i h0
    exact ⟨Option.some.inj h, h0⟩
/-- the value of the next term of one beginning -/
theorem val_next {g M sg n : Int} (h : SmQ g M) (hn : 1 ≤ n ∧ n ≤ 5) (h2 : SmQ (g * sg) (M * n)) :
    fOk ((qF g M).1 * sg) ((qF g M).2 * n) = true ∧ (fN ((qF g M).1 * sg) ((qF g M).2 * n), fD ((qF g M).1 * sg) ((qF g M).2 * n)) = qF (g * sg) (M * n) := by
  obtain ⟨_, a2, _, a4⟩ := q_ok h
  obtain ⟨s1, _, _, _⟩ := q_ok h2
  have hpos : 1 ≤ fD g M * n := by
    have := Int.mul_le_mul a4 hn.1 (by omega) (by omega)
    simpa using this
  obtain ⟨t1, t2, t3⟩ := f_ratio (n := fN g M * sg) (d := fD g M * n) (n' := g * sg) (d' := M * n) hpos h2.1 (by
    calc fN g M * sg * (M * n) = (fN g M * M) * (sg * n) := by ac_rfl
      _ = (g * fD g M) * (sg * n) := by rw [a2]
      _ = g * sg * (fD g M * n) := by ac_rfl)
  unfold qF
  simp only
  exact ⟨by rw [t1]; exact s1, by rw [t2, t3]⟩

section
variable {ws : List ByteArray} {h : VF} {G : List UInt8 → Int} (hr : RepV ws h G) (hs5 : ∀ s ∈ ws, s.size ≤ 5)
include hr hs5
theorem terms_rep {t : Tm} (ht : t ∈ termsOf h ws) : t.s ∈ ws ∧ (t.n, t.d) = qF (G t.s.data.toList) (facG t.s.size) ∧ G t.s.data.toList ≠ 0 := by
  obtain ⟨h1, h2⟩ := termsOf_iff.1 ht
  have h3 := hr t.s h1
  rw [h2] at h3
  obtain ⟨h4, h5⟩ := nzF_out h3.symm
  refine ⟨h1, h4.symm, fun h0 => ?_⟩
  rw [h0] at h5
  have hF := fac_of (hs5 _ h1)
  exact h5 (q_zero ⟨by omega, by omega, by omega⟩)
omit hs5 in
theorem us_mem {v : List UInt8} (hv : wrd v ∈ ws) (hG : SmQ (G v) (facG v.length)) : v ∈ (termsOf h ws).map (fun t => t.s.data.toList) ∨ G v = 0 := by
  by_cases h0 : G v = 0
  · exact .inr h0
  · left
    have h1 := hr _ hv
    rw [wrd_list, wrd_size] at h1
    rw [nzF_1 (q_nz hG h0)] at h1
    refine List.mem_map.2 ⟨⟨wrd v, (qF (G v) (facG v.length)).1, (qF (G v) (facG v.length)).2⟩, termsOf_iff.2 ⟨hv, h1⟩, wrd_list v⟩
end
theorem us_nodup {ws : List ByteArray} {h : VF} (ha : ws.Pairwise lessW) : ((termsOf h ws).map (fun t => t.s.data.toList)).Nodup := by
  have h1 := termsOf_asc h ha
  unfold List.Nodup
  rw [List.pairwise_map]
  refine h1.imp ?_
  intro a b hab e
  have : a.s = b.s := ByteArray.ext (Array.toList_inj.1 e)
  unfold lessT at hab
  rw [this, lessL_irrefl] at hab
  cases hab

section
variable {ws : List ByteArray} {G : List UInt8 → Int} {c : UInt8} {sg : Int} (hsg : Sg sg) {k : Nat} (hk : k ≤ 12) (hG : BdG G k) {us : List (List UInt8)} {i j : Nat} (hi : i < us.length)
include hsg hk hG hi
/-- one put: the state with one share more -/
theorem round_put (hnd : us.Nodup) {f : VF} (hf : RepV ws f (parG G (eG c sg) (dnB us i j))) (hs5 : ∀ s ∈ ws, s.size ≤ 5) (hin : wrd (us[i] ++ List.replicate j c) ∈ ws) :
    SmQ (G us[i] * sg ^ j) (facG us[i].length * facG j) ∧ ∃ q, putF f (wrd (us[i] ++ List.replicate j c)) (qF (G us[i] * sg ^ j) (facG us[i].length * facG j)).1 (qF (G us[i] * sg ^ j) (facG us[i].length * facG j)).2 = some q ∧ RepV ws q (parG G (eG c sg) (dnB us i (j + 1))) := by
  have hsz : us[i].length + j ≤ 5 := by
    have := hs5 _ hin
    rw [wrd_size] at this
    simpa using this
  have f1 := fac_of (n := us[i].length) (by omega)
  have f2 := fac_of (n := j) (by omega)
  have f3 := fac_of (n := us[i].length + j) hsz
  have b1 := hG us[i] (by omega)
  have p1 := small_pow (k := k) (n := us[i].length) (by omega) (by omega)
  have a1 := hsg.abs j
  have hfm : 1 ≤ facG us[i].length * facG j ∧ facG us[i].length * facG j ≤ 14400 := by
    constructor
    · have := Int.mul_le_mul f1.1 f2.1 (by omega) (by omega)
      simpa using this
    · have := Int.mul_le_mul f1.2 f2.2 (by omega) (by omega)
      simpa using this
  have hab : (G us[i] * sg ^ j).natAbs = (G us[i]).natAbs := by rw [Int.natAbs_mul, a1, Nat.mul_one]
  have hsm : SmQ (G us[i] * sg ^ j) (facG us[i].length * facG j) := ⟨by omega, by omega, by omega⟩
  refine ⟨hsm, ?_⟩
  obtain ⟨d1, d2, d3⟩ := dnB_step hnd (j := j) hi
  have hM : facG (wrd (us[i] ++ List.replicate j c)).size = facG us[i].length * facG j * chs (us[i].length + j) us[i].length := by
    rw [wrd_size, List.length_append, List.length_replicate]
    have := fac_chs ⟨us[i].length + j, by omega⟩ ⟨us[i].length, by omega⟩ (by simp)
    simp only [Nat.add_sub_cancel_left] at this
    exact this
  have hb0 := parG_bd (Dn := dnB us i j) hk hG (eG_bd (c := c) hsg) (us[i] ++ List.replicate j c) (by simpa using hsz)
  have hb1 := parG_bd (Dn := dnB us i (j + 1)) hk hG (eG_bd (c := c) hsg) (us[i] ++ List.replicate j c) (by simpa using hsz)
  have hq := small_pow (k := k + 1) (n := (us[i] ++ List.replicate j c).length) (by omega) (by simpa using hsz)
  have hadd := parG_add (G1 := G) (c := c) (sg := sg) (u := us[i]) (j := j) d1 d2 d3
  have e1 := hadd (us[i] ++ List.replicate j c)
  unfold addG at e1
  rw [if_pos rfl] at e1
  have hzs : (wrd (us[i] ++ List.replicate j c)).size = us[i].length + j := by rw [wrd_size]; simp
  obtain ⟨q, h1, h2⟩ := put_rep hf hin (g := G us[i] * sg ^ j) hM (by rw [wrd_list, hzs]; exact ⟨by omega, by omega, by omega⟩) hsm (by rw [wrd_list, hzs, ← e1]; exact ⟨by omega, by omega, by omega⟩)
  refine ⟨q, h1, fun s hs => ?_⟩
  rw [h2 s hs, wrd_list, hadd]
end
theorem round_next {ws : List ByteArray} {G H : List UInt8 → Int} {us : List (List UInt8)} {i j N : Nat} {f : VF} (hf : RepV ws f (parG G H (dnB us i j))) (hi : i < us.length) (hj : N < us[i].length + j) (hsN : ∀ s ∈ ws, s.size ≤ N) :
    RepV ws f (parG G H (dnB us (i + 1) 0)) := fun s hs => by
  rw [hf s hs]
  congr 2
  refine parG_congr fun p hp => ?_
  rcases dnB_next hi hj (v := s.data.toList.take p) (L := s.data.toList.length) (by rw [list_size]; exact hsN s hs) with h | h
  · exact h
  · rw [List.length_take] at h
    omega
theorem round_end {ws : List ByteArray} {G H : List UInt8 → Int} {us : List (List UInt8)} {i : Nat} {f : VF} (hf : RepV ws f (parG G H (dnB us i 0))) (hi : us.length ≤ i) (hus : ∀ s ∈ ws, ∀ p, p ≤ s.size → s.data.toList.take p ∈ us ∨ G (s.data.toList.take p) = 0) :
    RepV ws f (mulG G H) := fun s hs => by
  rw [hf s hs]
  congr 2
  refine parG_all fun p hp => ?_
  rw [dnB_end us hi]
  rcases hus s hs p (by rw [← list_size]; exact hp) with h | h
  · exact .inl (decide_eq_true h)
  · exact .inr h
theorem round_start {ws : List ByteArray} {G H : List UInt8 → Int} {us : List (List UInt8)} {f : VF} (hf : ∀ s ∈ ws, f s = none) (hs5 : ∀ s ∈ ws, s.size ≤ 5) : RepV ws f (parG G H (dnB us 0 0)) := fun s hs => by
  rw [hf s hs]
  have : parG G H (dnB us 0 0) s.data.toList = 0 := parG_none fun p hp => dnB_start us _ _ (by rw [List.length_take]; omega)
  rw [this]
  have hF := fac_of (hs5 s hs)
  exact (nzF_q0 ⟨by omega, by omega, by omega⟩).symm
end Go.Proofs.YtddfijlgehpjfaaGreatDoor

namespace Go.Proofs.YtddfijlgehpjfaaGreatDoor

/-- the letter of a number, and its sign -/
def chL (x : Int) : UInt8 := UInt8.ofNat (47 + x.natAbs)
def sgL (x : Int) : Int := if x < 0 then -1 else 1
theorem sgL_sg (x : Int) : Sg (sgL x) := by unfold sgL Sg; split <;> simp
def unG (m : List UInt8) : Int := if m = [] then 1 else 0
def gwG (z : List Int) : Nat → List UInt8 → Int
  | 0 => unG
  | k + 1 => mulG (gwG z k) (eG (chL (z.getD k 0)) (sgL (z.getD k 0)))
theorem unG_bd : BdG unG 0 := fun m _ => by
  unfold unG
  split
  · rename_i e; subst e; simp
  · have := (small_pow (k := 0) (n := m.length) (by omega) (by omega)).1
    simpa using this
theorem gwG_bd (z : List Int) : ∀ {k : Nat}, k ≤ 12 → BdG (gwG z k) k
  | 0, _ => unG_bd
  | k + 1, h => mulG_bd (by omega) (gwG_bd z (by omega)) (eG_bd (sgL_sg _))
theorem data_ext {s t : ByteArray} (h : s.data.toList = t.data.toList) : s = t := ByteArray.ext (Array.toList_inj.1 h)

section
variable {D N : Nat} (hD : 1 ≤ D ∧ D ≤ 3) (hN : 1 ≤ N ∧ N ≤ 5)
include hD hN
omit hD in
theorem ws_small : ∀ s ∈ allW D N, s.size ≤ 5 := fun s hs => by have := allW_size D N s hs; omega
omit hN in
theorem ws_closed : ∀ s ∈ allW D N, ∀ i, i ≤ s.size → s.extract 0 i ∈ allW D N ∧ s.extract i s.size ∈ allW D N := fun s hs i hi => by
  have h1 := allW_size D N s hs
  have h2 := allW_B hD.2 N s hs
  obtain ⟨x1, x2⟩ := list_ext s i
  have hw : ∀ l : List UInt8, (∀ x ∈ l, x ∈ s.data.toList) → wordB (D : Int) l = true := fun l hl => List.all_eq_true.2 fun x hx => List.all_eq_true.1 h2 x (hl x hx)
  constructor
  · refine allW_all hD.2 N _ ?_ ?_
    · rw [← list_size, x1, List.length_take, list_size]; omega
    · rw [x1]; exact hw _ fun x hx => List.mem_of_mem_take hx
  · refine allW_all hD.2 N _ ?_ ?_
    · rw [← list_size, x2, List.length_drop, list_size]; omega
    · rw [x2]; exact hw _ fun x hx => List.mem_of_mem_drop hx
omit hN hD in
theorem ws_nodup (hD3 : D ≤ 3) : (allW D N).Nodup := by
  refine (allW_asc hD3 N).imp ?_
  intro a b hab e
  subst e
  unfold lessW at hab
  rw [lessL_irrefl] at hab
  cases hab
omit hD in
theorem rep_zero {s : ByteArray} (hs : s ∈ allW D N) : nzF (qF 0 (facG s.size)) = none := by
  have := fac_of (ws_small hN s hs)
  exact nzF_q0 ⟨by omega, by omega, by omega⟩
omit hD in
theorem unit_rep : RepV (allW D N) unitF unG := fun s hs => by
  have he : (ByteArray.empty).data.toList = ([] : List UInt8) := rfl
  unfold unitF setF unG
  by_cases e : s = ByteArray.empty
  · subst e
    rw [if_pos rfl, he, if_pos rfl]
    have : isF 1 1 = true := by decide
    obtain ⟨_, r2, r3⟩ := isF_self this
    show some (1, 1) = nzF (qF 1 1)
    unfold qF
    rw [r2, r3]
    rfl
  · have hne : ¬ s.data.toList = [] := fun h => e (data_ext (h.trans he.symm))
    rw [if_neg e, if_neg hne]
    exact (rep_zero hN hs).symm
/-- the values of a step of one letter -/
theorem step_rep {x : Int} (hx : Six x) (hxD : x.natAbs ≤ D) : RepV (allW D N) (stepV (stG D x)) (yG (chL x) (sgL x)) := fun s hs => by
  have hu : ∀ i, (stG D x).getD i 0 = uG x i := fun i => by
    by_cases hi : i < D
    · rw [List.getD_eq_getElem?_getD, List.getElem?_eq_getElem (by rw [stG_length hD.2]; exact hi)]
      exact stG_get hD.2 x i (by rw [stG_length hD.2]; exact hi)
    · rw [List.getD_eq_getElem?_getD, List.getElem?_eq_none (by rw [stG_length hD.2]; omega)]
      unfold uG
      rw [if_neg (by omega), if_neg (by omega)]
      rfl
  have hz := rep_zero hN hs
  have hl : ∀ i : Nat, s = letW (i : Int) ↔ s.data.toList = [UInt8.ofNat (48 + i)] := fun i => by
    constructor
    · intro e; rw [e]; exact letW_list i
    · intro e; exact data_ext (by rw [e, letW_list])
  have h1 : ∀ i : Nat, s = letW (i : Int) → s.size = 1 := fun i e => by rw [← list_size, (hl i).1 e]; rfl
  have q1 : qF 1 1 = (1, 1) := by
    obtain ⟨_, r2, r3⟩ := isF_self (show isF 1 1 = true by decide)
    unfold qF; rw [r2, r3]
  have q2 : qF (-1) 1 = (-1, 1) := by
    obtain ⟨_, r2, r3⟩ := isF_self (show isF (-1) 1 = true by decide)
    unfold qF; rw [r2, r3]
  have hf1 : facG 1 = 1 := by decide
  have l0 := hl 0
  have l1 := hl 1
  have l2 := hl 2
  have s0 := h1 0
  have s1 := h1 1
  have s2 := h1 2
  unfold stepV stepF setF noneF
  rw [hu, hu, hu]
  unfold Six at hx
  have hz1 : nzF (qF 0 1) = none := nzF_q0 ⟨by omega, by omega, by omega⟩
  unfold yG
  rcases hx with rfl | rfl | rfl | rfl | rfl | rfl
  all_goals
    simp only [show uG (-3) 0 = 0 from rfl, show uG (-3) 1 = 0 from rfl, show uG (-3) 2 = -1 from rfl, show uG (-2) 0 = 0 from rfl, show uG (-2) 1 = -1 from rfl, show uG (-2) 2 = 0 from rfl, show uG (-1) 0 = -1 from rfl, show uG (-1) 1 = 0 from rfl, show uG (-1) 2 = 0 from rfl,
      show uG 3 0 = 0 from rfl, show uG 3 1 = 0 from rfl, show uG 3 2 = 1 from rfl, show uG 2 0 = 0 from rfl, show uG 2 1 = 1 from rfl, show uG 2 2 = 0 from rfl, show uG 1 0 = 1 from rfl, show uG 1 1 = 0 from rfl, show uG 1 2 = 0 from rfl,
      show chL (-3) = UInt8.ofNat (48 + 2) from rfl, show chL (-2) = UInt8.ofNat (48 + 1) from rfl, show chL (-1) = UInt8.ofNat (48 + 0) from rfl, show chL 3 = UInt8.ofNat (48 + 2) from rfl, show chL 2 = UInt8.ofNat (48 + 1) from rfl, show chL 1 = UInt8.ofNat (48 + 0) from rfl,
      show sgL (-3) = -1 from rfl, show sgL (-2) = -1 from rfl, show sgL (-1) = -1 from rfl, show sgL 3 = 1 from rfl, show sgL 2 = 1 from rfl, show sgL 1 = 1 from rfl]
    by_cases e2 : s = letW (2 : Int)
    · have hsz := s2 e2
      have hli := l2.1 e2
      rw [if_pos e2, hsz, hli, hf1]
      first
        | (rw [if_pos rfl, q1]; done)
        | (rw [if_pos rfl, q2]; done)
        | (rw [if_neg] <;> first | (rw [hz1]; rfl) | decide)
    · rw [if_neg e2]
      by_cases e1 : s = letW (1 : Int)
      · have hsz := s1 e1
        have hli := l1.1 e1
        rw [if_pos e1, hsz, hli, hf1]
        first
          | (rw [if_pos rfl, q1]; done)
          | (rw [if_pos rfl, q2]; done)
          | (rw [if_neg] <;> first | (rw [hz1]; rfl) | decide)
      · rw [if_neg e1]
        by_cases e0 : s = letW (0 : Int)
        · have hsz := s0 e0
          have hli := l0.1 e0
          rw [if_pos e0, hsz, hli, hf1]
          first
            | (rw [if_pos rfl, q1]; done)
            | (rw [if_pos rfl, q2]; done)
            | (rw [if_neg] <;> first | (rw [hz1]; rfl) | decide)
        · rw [if_neg e0]
          first
            | (rw [if_neg (fun e => e0 (l0.2 e)), hz]; done)
            | (rw [if_neg (fun e => e1 (l1.2 e)), hz]; done)
            | (rw [if_neg (fun e => e2 (l2.2 e)), hz]; done)
omit hN in
theorem letter_word {x : Int} (hx : Six x) (hxD : x.natAbs ≤ D) {k : Nat} (hk : k ≤ N) : (⟨(List.replicate k (chL x)).toArray⟩ : ByteArray) ∈ allW D N := by
  refine allW_all hD.2 N _ (by simp [ByteArray.size]; exact hk) ?_
  refine List.all_eq_true.2 fun y hy => ?_
  have hy' : y = chL x := List.eq_of_mem_replicate hy
  rw [hy']
  have hc : (chL x).toNat = 47 + x.natAbs := by
    unfold chL
    rw [UInt8.toNat_ofNat']
    omega
  unfold Six at hx
  unfold letB
  simp only [decide_eq_true_eq]
  omega
theorem powers_rep {x : Int} (hx : Six x) (hxD : x.natAbs ≤ D) : ∀ k, k ≤ N → ∃ p, powV (stepV (stG D x)) (allW D N) k = some p ∧ RepV (allW D N) p (pwG (chL x) (sgL x) k)
  | 0, _ => ⟨unitF, rfl, (unit_rep hN).congr (ws_small hN) (fun m _ => by unfold unG pwG; simp [facG])⟩
  | k + 1, hk => by
    obtain ⟨p, h1, h2⟩ := powers_rep hx hxD k (by omega)
    obtain ⟨q, h3, h4⟩ := pow_rep (sgL_sg x) (k := k) (by omega) h2 (step_rep hD hN hx hxD) (ws_small hN) (ws_closed hD)
    exact ⟨q, by rw [powV_next h1]; exact h3, h4⟩
omit hD hN in
theorem fct_fac : ∀ k : Nat, fct k = facG k
  | 0 => rfl
  | k + 1 => by show fct k * ((k : Int) + 1) = facG k * ((k : Int) + 1); rw [fct_fac k]
theorem sums_rep {x : Int} (hx : Six x) (hxD : x.natAbs ≤ D) : ∀ k, k ≤ N + 1 → ∃ f, sumK (stepV (stG D x)) (allW D N) expF k = some f ∧ RepV (allW D N) f (exG (chL x) (sgL x) k)
  | 0, _ => ⟨noneF, rfl, fun s hs => by
      have : exG (chL x) (sgL x) 0 s.data.toList = 0 := by unfold exG; rw [if_neg (by omega)]
      rw [this]
      exact (rep_zero hN hs).symm⟩
  | k + 1, hk => by
    obtain ⟨f, h1, h2⟩ := sums_rep hx hxD k (by omega)
    obtain ⟨p, h3, h4⟩ := powers_rep hD hN hx hxD k (by omega)
    obtain ⟨q, h5, h6⟩ := add_rep (sgL_sg x) (k := k) (by omega) (ws_nodup (D := D) (N := N) hD.2) h2 h4 (letter_word hD hx hxD (by omega))
    refine ⟨q, ?_, h6⟩
    rw [sumK_next h1 h3]
    show addK p 1 (fct k) (allW D N) f = some q
    rw [fct_fac]
    exact h5
theorem exp_rep {x : Int} (hx : Six x) (hxD : x.natAbs ≤ D) : ∃ e, expV (stepV (stG D x)) (allW D N) N = some e ∧ RepV (allW D N) e (eG (chL x) (sgL x)) := by
  obtain ⟨f, h1, h2⟩ := sums_rep hD hN hx hxD (N + 1) (Nat.le_refl _)
  refine ⟨f, h1, fun s hs => ?_⟩
  rw [h2 s hs]
  have : exG (chL x) (sgL x) (N + 1) s.data.toList = eG (chL x) (sgL x) s.data.toList := by
    unfold exG
    rw [if_pos]
    rw [list_size]
    have := allW_size D N s hs
    omega
  rw [this]
/-- the signature of a group word's first numbers: it fits, and is told by whole numbers -/
theorem sig_rep {z : List Int} (hl : z.length ≤ 12) (hz : ∀ x ∈ z, Six x ∧ x.natAbs ≤ D) : ∀ k, k ≤ z.length → ∃ h, sigV (pthG D z) (allW D N) N k = some h ∧ RepV (allW D N) h (gwG z k)
  | 0, _ => ⟨unitF, rfl, unit_rep hN⟩
  | k + 1, hk => by
    obtain ⟨h, h1, h2⟩ := sig_rep hl hz k (by omega)
    obtain ⟨x6, xD⟩ := hz z[k] (List.getElem_mem (by omega))
    obtain ⟨e, h3, h4⟩ := exp_rep hD hN x6 xD
    have hg : (pthG D z).getD k [] = stG D z[k] := by
      rw [List.getD_eq_getElem?_getD, List.getElem?_eq_getElem (by rw [pthG_length]; omega)]
      simp [pthG]
    have hzk : z.getD k 0 = z[k] := by rw [List.getD_eq_getElem?_getD, List.getElem?_eq_getElem (by omega)]; rfl
    obtain ⟨q, h5, h6⟩ := prodV_rep (k := k) (by omega) h2 h4 (gwG_bd z (by omega)) (eG_bd (sgL_sg _)) (ws_small hN) (ws_closed hD)
    refine ⟨q, ?_, ?_⟩
    · rw [sigV_2 h1 (by rw [hg]; exact h3)]; exact h5
    · show RepV _ _ (mulG (gwG z k) (eG (chL (z.getD k 0)) (sgL (z.getD k 0))))
      rw [hzk]; exact h6
end
end Go.Proofs.YtddfijlgehpjfaaGreatDoor
