/-
  The depth of a series' row: the length of its first word that is not empty. Contracts of the program's depthOf and of the model's l09Depth.
  The depth of a group word, of the program: contracts of DepthOfWord. What is known of the row of a group word's signature.
  The depth of a group word, of the model: contracts of DepthOfWord.
-/
import Derived.Test.YtddfijlgehpjfaaDoorTol
import Derived.Test.YtddfijlgehpjfaaDoorGwN
import Derived.RegionTactic
import Derived.Deep.RegionLaw
namespace Go.Proofs.YtddfijlgehpjfaaDoor
open Go.RowKit

/-- the length of the first word that is not empty, or 0 -/
def depL : List Tm → Int
  | [] => 0
  | t :: r => if t.s.size = 0 then depL r else t.s.size
theorem depL_at : ∀ (ts : List Tm) (k : Nat) (h : k < ts.length), (∀ j (hj : j < ts.length), j < k → (ts[j]).s.size = 0) → (ts[k]).s.size ≠ 0 → depL ts = (ts[k]).s.size
  | [], k, h, _, _ => absurd h (Nat.not_lt_zero _)
  | t :: r, 0, h, _, h2 => by simp only [List.getElem_cons_zero] at h2 ⊢; rw [depL, if_neg h2]
  | t :: r, k + 1, h, h1, h2 => by
    have h0 := h1 0 (by simp) (by omega)
    simp only [List.getElem_cons_zero] at h0
    simp only [List.getElem_cons_succ] at h2 ⊢
    rw [depL, if_pos h0]
    exact depL_at r k (by simpa using h) (fun j hj hjk => by have := h1 (j + 1) (by simp; omega) (by omega); simpa using this) h2
theorem depL_none : ∀ (ts : List Tm), (∀ j (hj : j < ts.length), (ts[j]).s.size = 0) → depL ts = 0
  | [], _ => rfl
  | t :: r, h => by
    have h0 := h 0 (by simp)
    simp only [List.getElem_cons_zero] at h0
    rw [depL, if_pos h0]
    exact depL_none r (fun j hj => by have := h (j + 1) (by simp; omega); simpa using this)
theorem depL_place {ts : List Tm} {i : Nat} (h : LPlace ts 1 i) : (∃ hi : i < ts.length, depL ts = (ts[i]).s.size) ∨ (i = ts.length ∧ depL ts = 0) := by
  obtain ⟨h0, h1, h2⟩ := h
  by_cases hi : i < ts.length
  · exact .inl ⟨hi, depL_at ts i hi (fun j hj hji => by have := h1 j hj hji; omega) (by have := h2 i hi (Nat.le_refl _); omega)⟩
  · exact .inr ⟨by omega, depL_none ts (fun j hj => by have := h1 j hj (by omega); omega)⟩

theorem l09Depth_c (L V : Int) (b off cap : Nat) (ts : List Tm) (hl : ts.length ≤ 1048576) (hs : ∀ i (h : i < ts.length), (ts[i]).s.size ≤ maxLen) (w : World) (hb : b < w.heap.size) (ht : TermsIn w b off ts) :
    Calls Tryd.prog 27 #[.agg #[.int .i64 L, .int .i64 V, .slice (some ⟨b, off, none⟩) ts.length cap]] w fun e w' => e = .returned (.int .i64 (depL ts)) ∧ Below w.heap.size w w' := by
  have HT := Lib.hid ht
  have HSz := Lib.hid hs
  clear ht hs
  go_enter Tryd.func27, Tryd.ntmps27
  go_wp2
  go_loop [3] (fun vi => ∃ k : Nat, k ≤ ts.length ∧ vi = .int .i64 k ∧ (∀ j (hj : j < ts.length), j < k → (ts[j]).s.size = 0)) (fun vi => ts.length - (intOf vi).toNat)
  case atStart => exact ⟨0, Nat.zero_le _, rfl, fun j _ h => by omega⟩
  case round =>
    obtain ⟨k, hk, rfl, hn⟩ := hrel
    have HN := Lib.hid hn
    clear hn
    have hTr := Lib.hid (HT.out.below (below1 w (.cells #[.int .i64 L, .int .i64 V, .slice (some ⟨b, off, none⟩) ts.length cap] 25)) hb)
    by_cases hlt : k < ts.length
    · obtain ⟨c0, c1, c2⟩ := hTr.out k hlt
      have hms := HSz.out k hlt
      obtain ⟨t, het⟩ : ∃ t, ts[k] = t := ⟨_, rfl⟩
      rw [het] at c0 c1 c2 hms
      have HE := Lib.hid het
      clear het
      obtain ⟨s, n, d⟩ := t
      simp only at c0 c1 c2 hms
      have hk1 : IntKind.i64.wrap (s.size : Int) = s.size := IntWalk.i64_in _ (by unfold maxLen at hms; omega)
      by_cases hs : s.size = 0
      · go_wp2
        go_round
        case rel =>
          refine ⟨k + 1, by omega, by go_num, fun j hj hjk => ?_⟩
          by_cases e : j < k
          · exact HN.out j hj e
          · obtain rfl : j = k := by omega
            rw [HE.out]
            exact hs
        case measure => simp [intOf]; omega
      · have HV := Lib.hid (depL_at ts k hlt HN.out (by rw [HE.out]; exact hs))
        go_wp2
        go_ret
        exact ⟨by rw [HV.out, HE.out]; rfl, by go_grown⟩
    · have HV := Lib.hid (depL_none ts (fun j hj => HN.out j hj (by omega)))
      go_wp2
      go_ret
      exact ⟨by rw [HV.out]; rfl, by go_grown⟩

theorem depthOf_c (L V : Int) (b off cap : Nat) (ts : List Tm) (hl : ts.length ≤ 1048576) (hcap : ts.length ≤ cap) (hs : ∀ i (h : i < ts.length), (ts[i]).s.size ≤ maxLen) (ha : Asc ts) (w : World) (hb : b < w.heap.size) (ht : TermsIn w b off ts) :
    Calls Tryd.prog 28 #[.agg #[.int .i64 L, .int .i64 V, .slice (some ⟨b, off, none⟩) ts.length cap]] w fun e w' => e = .returned (.int .i64 (depL ts)) ∧ Below w.heap.size w w' := by
  have HT := Lib.hid ht
  have HSz := Lib.hid hs
  have HA := Lib.hid ha
  have HI := Lib.hid (fun W (hW : Below w.heap.size w W) => indexOfLength_c b off cap ts hl hs 1 ha W (Nat.lt_of_lt_of_le hb hW.size) (ht.below hW hb))
  clear ht hs ha
  go_enter Tryd.func28, Tryd.ntmps28
  go_wp2_with fail
  obtain ⟨w1, hw1⟩ : ∃ w1 : World, w.alloc (.cells #[.int .i64 L, .int .i64 V, .slice (some ⟨b, off, none⟩) ts.length cap] 25) = w1 := ⟨_, rfl⟩
  have HB1 := Lib.hid (show Below w.heap.size w w1 from by subst hw1; exact below1 _ _)
  have s2 : w1.cell? ⟨w.heap.size, 2, none⟩ = some (.slice (some ⟨b, off, none⟩) ts.length cap) := by subst hw1; go_simp
  have hz1 : w.heap.size < w1.heap.size := by subst hw1; simp
  rw [hw1]
  clear hw1
  go_region_law (first
    | (go_simp; go_at_call 47; (with_reducible refine (HI.out _ (Below.drew HB1.out)).mono ?_); rintro e w5 ⟨i, hp, rfl, hb5'⟩; have hb5 : Below w1.heap.size w1 w5 := ⟨hb5'.os, hb5'.tape, hb5'.output, hb5'.size, hb5'.block⟩; have HP := Lib.hid hp; have hi := hp.1; have hi2 : i ≤ cap := Nat.le_trans hi hcap; clear hp; obtain ⟨bc1, bc2⟩ := bcellB hb5; have z2 := (bc1 w.heap.size 2 hz1).trans s2)
    | fail)
  all_goals
    have HB5 := Lib.hid (HB1.out.trans (hb5.mono (by omega)))
    have HCap := Lib.hid hcap
    clear hb5' hb5 bc1 bc2 z2 s2 hz1
    rcases depL_place HP.out with ⟨hlt, hd⟩ | ⟨he, hd⟩
    · obtain ⟨c0, c1, c2⟩ := HT.out.below HB5.out hb i hlt
      have hms := HSz.out i hlt
      have HD := Lib.hid hd
      obtain ⟨t, het⟩ : ∃ t, ts[i] = t := ⟨_, rfl⟩
      rw [het] at c0 c1 c2 hms HD
      clear het hd
      obtain ⟨s, n, d⟩ := t
      simp only at c0 c1 c2 hms HD
      have hk1 : IntKind.i64.wrap (s.size : Int) = s.size := IntWalk.i64_in _ (by unfold maxLen at hms; omega)
      have hic : ¬ cap = i := by omega
      have hne : ¬ ts.length - i = 0 := by omega
      have hps : 0 < ts.length - i := by omega
      simp only [if_neg hic]
      clear hcap hic hi2
      obtain ⟨m, hm⟩ : ∃ m, ts.length - i = m + 1 := ⟨ts.length - i - 1, by omega⟩
      rw [hm]
      go_wp2
      go_ret
      exact ⟨by rw [HD.out]; rfl, by first | exact HB5.out | go_grown⟩
    · have HD := Lib.hid hd
      have hm : ts.length - i = 0 := by omega
      rw [hm]
      clear hd hcap he hi2 hi
      go_wp2
      all_goals go_ret
      all_goals exact ⟨by rw [HD.out]; rfl, by first | exact HB5.out | go_grown⟩
end Go.Proofs.YtddfijlgehpjfaaDoor

namespace Go.Proofs.YtddfijlgehpjfaaDoor
open Go.RowKit

theorem gwG_nil (z : List Int) : ∀ k, gwG z k [] = 1
  | 0 => rfl
  | k + 1 => by
    have h := gwG_nil z k
    unfold gwG mulG
    simp only [List.length_nil, sumI, List.take_nil, List.drop_nil, h]
    simp [chs, eG]
theorem q_11 : nzF (qF 1 1) = some (1, 1) := by decide +kernel
/-- what is known of the row of a group word's signature -/
structure SigRow (ts : List Tm) : Prop where
  ne : ts ≠ []
  asc : Asc ts
  len : ts.length ≤ 1458
  small : ∀ i (h : i < ts.length), (ts[i]).s.size ≤ 5
theorem sig_row {D N : Nat} (hD : D ≤ 3) (hN : N ≤ 5) {h : VF} {z : List Int} {k : Nat} (hr : RepV (allW D N) h (gwG z k)) : SigRow (termsOf h (allW D N)) where
  ne := by
    obtain ⟨r, hw, _⟩ := allW_head D N
    have h1 : ByteArray.empty ∈ allW D N := by rw [hw]; simp
    have h2 := hr _ h1
    have h3 : h ByteArray.empty = some (1, 1) := h2.trans (by
      show nzF (qF (gwG z k []) (facG 0)) = _
      rw [gwG_nil]
      exact q_11)
    have h4 := (termsOf_iff (f := h) (ws := allW D N) (t := ⟨ByteArray.empty, 1, 1⟩)).2 ⟨h1, h3⟩
    exact fun e => by rw [e] at h4; cases h4
  asc := fun i j hj hij => List.pairwise_iff_getElem.1 (termsOf_asc h (allW_asc hD N)) i j (Nat.lt_trans hij hj) hj hij
  len := by
    have h1 := termsOf_le h (allW D N) (allW D N).length
    rw [List.take_length] at h1
    have h2 := allW_few hD hN
    omega
  small := fun i hi => by
    have h1 := allW_size D N _ (termsOf_mem (List.getElem_mem hi))
    omega

theorem iDpt_1 (L V : Int) (lo hi : Nat) (a : Option Addr) (cap : Nat) (z : List Int) (hl : z.length ≤ 1048576) (hn : shapeB L V = false ∨ (shapeB L V = true ∧ grpB L z = false)) (w : World) (hr : IRow lo hi w a z) (hh : hi ≤ w.heap.size) :
    Calls Tryd.prog 14 #[.int .i64 L, .int .i64 V, .slice a z.length cap] w fun e w' => e = .returned (.tuple #[.int .i64 0, .int .i64 2]) ∧ Below w.heap.size w w' := by
  have HS := Lib.hid (fun W (hb : Below w.heap.size w W) => iGow_1 L V lo hi a cap z hl hn W (hr.below hb hh) (by have := hb.size; omega))
  clear hr hn
  go_enter Tryd.func14, Tryd.ntmps14
  go_wp2_with fail
  refine (HS.out _ (by go_grown)).mono ?_
  rintro e w5 ⟨a5, c5, rfl, hb5, hN5⟩
  have HB5 := Lib.hid hb5
  have hz5 := hb5.size
  clear hb5 hN5
  go_wp2
  go_ret2
  refine ⟨rfl, ?_⟩
  have hW := HB5.out
  go_grown
theorem iDpt_2 (D N : Nat) (hsh : shapeB (D : Int) (N : Int) = true) (lo hi : Nat) (a : Option Addr) (cap : Nat) (z : List Int) (hl : z.length ≤ 1048576) (hg : grpB (D : Int) z = true) (h : VF) (hq : sigV (pthG D z) (allW D N) N z.length = some h) (hR : SigRow (termsOf h (allW D N))) (w : World) (hr : IRow lo hi w a z) (hh : hi ≤ w.heap.size) :
    Calls Tryd.prog 14 #[.int .i64 D, .int .i64 N, .slice a z.length cap] w fun e w' => e = .returned (.tuple #[.int .i64 (depL (termsOf h (allW D N))), .int .i64 0]) ∧ Below w.heap.size w w' := by
  have HS := Lib.hid (fun W (hb : Below w.heap.size w W) => iGow_full D N hsh lo hi a cap z hl hg h hq W (hr.below hb hh) (by have := hb.size; omega))
  have HR := Lib.hid hR
  clear hr hsh hg hq hR
  go_enter Tryd.func14, Tryd.ntmps14
  go_wp2_with fail
  refine (HS.out _ (by go_grown)).mono ?_
  rintro e w5 ⟨a5, rfl, hb5, hN5⟩
  obtain ⟨ts, hts⟩ : ∃ ts, termsOf h (allW D N) = ts := ⟨_, rfl⟩
  rw [hts] at hN5 HR ⊢
  have HB5 := Lib.hid hb5
  have hz5 := hb5.size
  have HTs := Lib.hid hts
  clear hts
  rcases hN5 with h0 | ⟨g, rfl, hg1, hg2, hg3, hg4⟩
  · exact absurd h0 HR.out.ne
  have HTm := Lib.hid hg4
  clear hb5 hg3 hg4
  have HC := Lib.hid (fun W (hb : Below w5.heap.size w5 W) => depthOf_c D N g 0 ts.length ts (by have := HR.out.len; omega) (Nat.le_refl _) (fun i hi => Nat.le_trans (HR.out.small i hi) (by decide)) HR.out.asc W (Nat.lt_of_lt_of_le hg2 hb.size) (HTm.out.below hb hg2))
  go_wp2_with fail
  refine (HC.out _ (below1 _ _)).mono ?_
  rintro e w6 ⟨rfl, hb6⟩
  have HB6 := Lib.hid (HB5.out.trans (((below1 w5 (.cells #[.int .i64 D, .int .i64 N, .slice (some ⟨g, 0, none⟩) ts.length ts.length] 25)).trans (hb6.mono (by simp))).mono hz5))
  clear hb6
  go_wp2
  go_ret2
  exact ⟨by simp [HTs.out], HB6.out⟩
end Go.Proofs.YtddfijlgehpjfaaDoor

namespace Go.Proofs.YtddfijlgehpjfaaDoor
open Go.RowKit

theorem sDpt_1 (L V : Int) (lo hi : Nat) (a : Option Addr) (cap : Nat) (z : List Int) (hl : z.length ≤ 1048576) (hn : codeG L V z = 2) (w : World) (hr : IRow lo hi w a z) :
    Calls Tryd.prog 13 #[.int .i64 L, .int .i64 V, .slice a z.length cap] w fun e w' => e = .returned (.tuple #[.int .i64 0, .int .i64 2]) ∧ Below w.heap.size w w' := by
  have HC := Lib.hid (l09Code_c L V lo hi a cap z hl w hr)
  rw [hn] at HC
  clear hr hn
  go_enter Tryd.func13, Tryd.ntmps13
  go_wp2_with (go_at_call 15; refine HC.out.mono ?_; rintro e w' ⟨rfl, rfl⟩)
  go_ret2
  exact ⟨by simp, Below.refl _ _⟩
theorem sDpt_2 (D N : Nat) (hsh : shapeB (D : Int) (N : Int) = true) (lo hi : Nat) (a : Option Addr) (cap : Nat) (z : List Int) (hl : z.length ≤ 1048576) (hg : grpB (D : Int) z = true) (h : VF) (hq : RepV (allW D N) h (gwG z z.length)) (w : World) (hr : IRow lo hi w a z) (hh : hi ≤ w.heap.size) :
    Calls Tryd.prog 13 #[.int .i64 D, .int .i64 N, .slice a z.length cap] w fun e w' => e = .returned (.tuple #[.int .i64 (depL (termsOf h (allW D N))), .int .i64 0]) ∧ Below w.heap.size w w' := by
  have hsz := shape_out hsh
  have hD : 1 ≤ D ∧ D ≤ 3 := by omega
  have hN : 1 ≤ N ∧ N ≤ 5 := by omega
  have hG := grpB_true hg
  have hz : ∀ x ∈ z, Six x ∧ x.natAbs ≤ D := fun x hx => ⟨six_of hG x hx, by have := hG.lo x hx; have := hG.hi x hx; omega⟩
  have HC := Lib.hid (l09Code_c (D : Int) (N : Int) lo hi a cap z hl w hr)
  rw [show codeG (D : Int) (N : Int) z = 0 from by simp [codeG, hsh, hg]] at HC
  have HS := Lib.hid (l09Sig_c D N hD hN lo hi a cap z hG.len hz w hr hh)
  have HQ := Lib.hid hq
  have HR := Lib.hid (sig_row hD.2 hN.2 hq)
  clear hr hsh hg hq hz hG hsz
  go_enter Tryd.func13, Tryd.ntmps13
  go_wp2_with (first | (go_at_call 15; refine HC.out.mono ?_; rintro e w' ⟨rfl, rfl⟩) | fail)
  refine HS.out.mono ?_
  rintro e w5 ⟨q, a5, c5, hq1, rfl, hlc, hb5, hN5⟩
  have hts := rep_terms hq1 HQ.out
  have HTs := Lib.hid hts
  obtain ⟨ts, hts2⟩ : ∃ ts, termsOf q (allW D N) = ts := ⟨_, rfl⟩
  rw [← hts, hts2] at HR
  rw [hts2] at hN5 hlc ⊢
  rw [hts2] at HTs
  have HB5 := Lib.hid hb5
  have hz5 := hb5.size
  clear hts2 hq1 hts
  rcases hN5 with h0 | ⟨g, rfl, hg1, hg2, hg3, hg4⟩
  · exact absurd h0 HR.out.ne
  have HTm := Lib.hid hg4
  clear hb5 hg3 hg4
  have HDc := Lib.hid (fun W (hb : Below w5.heap.size w5 W) => l09Depth_c D N g 0 c5 ts (by have := HR.out.len; omega) (fun i hi => Nat.le_trans (HR.out.small i hi) (by decide)) W (Nat.lt_of_lt_of_le hg2 hb.size) (HTm.out.below hb hg2))
  go_wp2_with fail
  refine (HDc.out _ (Below.refl _ _)).mono ?_
  rintro e w6 ⟨rfl, hb6⟩
  have HB6 := Lib.hid (HB5.out.trans (hb6.mono hz5))
  clear hb6
  go_wp2
  go_ret2
  exact ⟨by simp [← HTs.out], HB6.out⟩
end Go.Proofs.YtddfijlgehpjfaaDoor
