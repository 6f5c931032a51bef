/-
  The depth of a series' row: the length of its first word that is not empty. Contracts of the program's depthOf and of the model's l09Depth.
  The depth of a group word, of the program: contracts of DepthOfWord. What is known of the row of a group word's signature.
  The depth of a group word, of the model: contracts of DepthOfWord.
-/
import Derived.Test.YtddfijlgehpjfaaGreatDoorTol
import Derived.Test.YtddfijlgehpjfaaGreatDoorGwN
import Derived.RegionTactic
import Derived.Deep.RegionLaw
namespace Go.Proofs.YtddfijlgehpjfaaGreatDoor
open Go.RowKit

/-- the length of the first word that is not empty, or 0 -/
def depL : List Tm → Int
  | [] => 0
  | t :: r => if t.s.size = 0 then depL r else t.s.size
theorem depL_at : ∀ (ts : List Tm) (k : Nat) (h : k < ts.length), (∀ j (hj : j < ts.length), j < k → (ts[j]).s.size = 0) → (ts[k]).s.size ≠ 0 → depL ts = (ts[k]).s.size
  | [], k, h, _, _ => absurd h (Nat.not_lt_zero _)
  | t :: r, 0, h, _, h2 => by simp only [List.getElem_cons_zero] at h2 ⊢; rw [depL, if_neg h2]
  | t :: r, k + 1, h, h1, h2 => by
    have h0 := h1 0 (by simp) (by omega)
    simp only [List.getElem_cons_zero] at h0
    simp only [List.getElem_cons_succ] at h2 ⊢
    rw [depL, if_pos h0]
    exact depL_at r k (by simpa using h) (fun j hj hjk => by have := h1 (j + 1) (by simp; omega) (by omega); simpa using this) h2
theorem depL_none : ∀ (ts : List Tm), (∀ j (hj : j < ts.length), (ts[j]).s.size = 0) → depL ts = 0
  | [], _ => rfl
  | t :: r, h => by
    have h0 := h 0 (by simp)
    simp only [List.getElem_cons_zero] at h0
    rw [depL, if_pos h0]
    exact depL_none r (fun j hj => by have := h (j + 1) (by simp; omega); simpa using this)
theorem depL_place {ts : List Tm} {i : Nat} (h : LPlace ts 1 i) : (∃ hi : i < ts.length, depL ts = (ts[i]).s.size) ∨ (i = ts.length ∧ depL ts = 0) := by
  obtain ⟨h0, h1, h2⟩ := h
  by_cases hi : i < ts.length
  · exact .inl ⟨hi, depL_at ts i hi (fun j hj hji => by have := h1 j hj hji; omega) (by have := h2 i hi (Nat.le_refl _); omega)⟩
  · exact .inr ⟨by omega, depL_none ts (fun j hj => by have := h1 j hj (by omega); omega)⟩

theorem l09Depth_c (L V : Int) (b off cap : Nat) (ts : List Tm) (hl : ts.length ≤ 1048576) (hs : ∀ i (h : i < ts.length), (ts[i]).s.size ≤ maxLen) (w : World) (hb : b < w.heap.size) (ht : TermsIn w b off ts) :
    Calls Tryz.prog 14 #[.agg #[.int .i64 L, .int .i64 V, .slice (some ⟨b, off, none⟩) ts.length cap]] w fun e w' => e = .returned (.int .i64 (depL ts)) ∧ Below w.heap.size w w' := by
  have HT := Lib.hid ht
  have HSz := Lib.hid hs
  clear ht hs
  go_enter Tryz.func14, Tryz.ntmps14
  go_wp2
  go_loop [3] (fun vi => ∃ k : Nat, k ≤ ts.length ∧ vi = .int .i64 k ∧ (∀ j (hj : j < ts.length), j < k → (ts[j]).s.size = 0)) (fun vi => ts.length - (intOf vi).toNat)
  case atStart => exact ⟨0, Nat.zero_le _, rfl, fun j _ h => by omega⟩
  case round =>
    obtain ⟨k, hk, rfl, hn⟩ := hrel
    have HN := Lib.hid hn
    clear hn
    have hTr := Lib.hid (HT.out.below (below1 w (.cells #[.int .i64 L, .int .i64 V, .slice (some ⟨b, off, none⟩) ts.length cap] 25)) hb)
    by_cases hlt : k < ts.length
    · obtain ⟨c0, c1, c2⟩ := hTr.out k hlt
      have hms := HSz.out k hlt
      obtain ⟨t, het⟩ : ∃ t, ts[k] = t := ⟨_, rfl⟩
      rw [het] at c0 c1 c2 hms
      have HE := Lib.hid het
      clear het
      obtain ⟨s, n, d⟩ := t
      simp only at c0 c1 c2 hms
      have hk1 : IntKind.i64.wrap (s.size : Int) = s.size := IntWalk.i64_in _ (by unfold maxLen at hms; omega)
      by_cases hs : s.size = 0
      · go_wp2
        go_round
        case rel =>
          refine ⟨k + 1, by omega, by go_num, fun j hj hjk => ?_⟩
          by_cases e : j < k
          · exact HN.out j hj e
          · obtain rfl : j = k := by omega
            rw [HE.out]
            exact hs
        case measure => simp [intOf]; omega
      · have HV := Lib.hid (depL_at ts k hlt HN.out (by rw [HE.out]; exact hs))
        go_wp2
        go_ret
        exact ⟨by rw [HV.out, HE.out]; rfl, by go_grown⟩
    · have HV := Lib.hid (depL_none ts (fun j hj => HN.out j hj (by omega)))
      go_wp2
      go_ret
      exact ⟨by rw [HV.out]; rfl, by go_grown⟩

theorem depthOf_c (L V : Int) (b off cap : Nat) (ts : List Tm) (hl : ts.length ≤ 1048576) (hcap : ts.length ≤ cap) (hs : ∀ i (h : i < ts.length), (ts[i]).s.size ≤ maxLen) (ha : Asc ts) (w : World) (hb : b < w.heap.size) (ht : TermsIn w b off ts) :
    Calls Tryz.prog 18 #[.agg #[.int .i64 L, .int .i64 V, .slice (some ⟨b, off, none⟩) ts.length cap]] w fun e w' => e = .returned (.int .i64 (depL ts)) ∧ Below w.heap.size w w' := by
  have HT := Lib.hid ht
  have HSz := Lib.hid hs
  have HA := Lib.hid ha
  have HI := Lib.hid (fun W (hW : Below w.heap.size w W) => indexOfLength_c b off cap ts hl hs 1 ha W (Nat.lt_of_lt_of_le hb hW.size) (ht.below hW hb))
  clear ht hs ha
  go_enter Tryz.func18, Tryz.ntmps18
  go_wp2_with fail
  obtain ⟨w1, hw1⟩ : ∃ w1 : World, w.alloc (.cells #[.int .i64 L, .int .i64 V, .slice (some ⟨b, off, none⟩) ts.length cap] 25) = w1 := ⟨_, rfl⟩
  have HB1 := Lib.hid (show Below w.heap.size w w1 from by subst hw1; exact below1 _ _)
  have s2 : w1.cell? ⟨w.heap.size, 2, none⟩ = some (.slice (some ⟨b, off, none⟩) ts.length cap) := by subst hw1; go_simp
  have hz1 : w.heap.size < w1.heap.size := by subst hw1; simp
  rw [hw1]
  clear hw1
  go_region_law (first
    | (go_simp; go_at_call 35; (with_reducible refine (HI.out _ (Below.drew HB1.out)).mono ?_); rintro e w5 ⟨i, hp, rfl, hb5'⟩; have hb5 : Below w1.heap.size w1 w5 := ⟨hb5'.os, hb5'.tape, hb5'.output, hb5'.size, hb5'.block⟩; have HP := Lib.hid hp; have hi := hp.1; have hi2 : i ≤ cap := Nat.le_trans hi hcap; clear hp; obtain ⟨bc1, bc2⟩ := bcellB hb5; have z2 := (bc1 w.heap.size 2 hz1).trans s2)
    | fail)
  all_goals
    have HB5 := Lib.hid (HB1.out.trans (hb5.mono (by omega)))
    have HCap := Lib.hid hcap
    clear hb5' hb5 bc1 bc2 z2 s2 hz1
    rcases depL_place HP.out with ⟨hlt, hd⟩ | ⟨he, hd⟩
    · obtain ⟨c0, c1, c2⟩ := HT.out.below HB5.out hb i hlt
      have hms := HSz.out i hlt
      have HD := Lib.hid hd
      obtain ⟨t, het⟩ : ∃ t, ts[i] = t := ⟨_, rfl⟩
      rw [het] at c0 c1 c2 hms HD
      clear het hd
      obtain ⟨s, n, d⟩ := t
      simp only at c0 c1 c2 hms HD
      have hk1 : IntKind.i64.wrap (s.size : Int) = s.size := IntWalk.i64_in _ (by unfold maxLen at hms; omega)
      have hic : ¬ cap = i := by omega
      have hne : ¬ ts.length - i = 0 := by omega
      have hps : 0 < ts.length - i := by omega
      simp only [if_neg hic]
      clear hcap hic hi2
      obtain ⟨m, hm⟩ : ∃ m, ts.length - i = m + 1 := ⟨ts.length - i - 1, by omega⟩
      rw [hm]
      go_wp2
      go_ret
      exact ⟨by rw [HD.out]; rfl, by first | exact HB5.out | go_grown⟩
    · have HD := Lib.hid hd
      have hm : ts.length - i = 0 := by omega
      rw [hm]
      clear hd hcap he hi2 hi
      go_wp2
      all_goals go_ret
      all_goals exact ⟨by rw [HD.out]; rfl, by first | exact HB5.out | go_grown⟩
end Go.Proofs.YtddfijlgehpjfaaGreatDoor

namespace Go.Proofs.YtddfijlgehpjfaaGreatDoor
open Go.RowKit

theorem gwG_nil (z : List Int) : ∀ k, gwG z k [] = 1
  | 0 => rfl
  | k + 1 => by
    have h := gwG_nil z k
    unfold gwG mulG
    simp only [List.length_nil, sumI, List.take_nil, List.drop_nil, h]
    simp [chs, eG]
theorem q_11 : nzF (qF 1 1) = some (1, 1) := by decide +kernel
/-- what is known of the row of a group word's signature -/
structure SigRow (ts : List Tm) : Prop where
  ne : ts ≠ []
  asc : Asc ts
  len : ts.length ≤ 1458
  small : ∀ i (h : i < ts.length), (ts[i]).s.size ≤ 5
theorem sig_row {D N : Nat} (hD : D ≤ 3) (hN : N ≤ 5) {h : VF} {z : List Int} {k : Nat} (hr : RepV (allW D N) h (gwG z k)) : SigRow (termsOf h (allW D N)) where
  ne := by
    obtain ⟨r, hw, _⟩ := allW_head D N
    have h1 : ByteArray.empty ∈ allW D N := by rw [hw]; simp
    have h2 := hr _ h1
    have h3 : h ByteArray.empty = some (1, 1) := h2.trans (by
      show nzF (qF (gwG z k []) (facG 0)) = _
      rw [gwG_nil]
      exact q_11)
    have h4 := (termsOf_iff (f := h) (ws := allW D N) (t := ⟨ByteArray.empty, 1, 1⟩)).2 ⟨h1, h3⟩
    exact fun e => by rw [e] at h4; cases h4
  asc := fun i j hj hij => List.pairwise_iff_getElem.1 (termsOf_asc h (allW_asc hD N)) i j (Nat.lt_trans hij hj) hj hij
  len := by
    have h1 := termsOf_le h (allW D N) (allW D N).length
    rw [List.take_length] at h1
    have h2 := allW_few hD hN
    omega
  small := fun i hi => by
    have h1 := allW_size D N _ (termsOf_mem (List.getElem_mem hi))
    omega

end Go.Proofs.YtddfijlgehpjfaaGreatDoor

namespace Go.Proofs.YtddfijlgehpjfaaGreatDoor
open Go.RowKit

end Go.Proofs.YtddfijlgehpjfaaGreatDoor
