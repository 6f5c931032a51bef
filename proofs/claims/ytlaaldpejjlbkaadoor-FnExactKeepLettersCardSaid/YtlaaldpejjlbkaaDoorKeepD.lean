/-
  Contracts of KeepLetters, of its model: it returns the series of the terms of given letters alone.
-/
import Derived.Test.YtlaaldpejjlbkaaDoorKeepS
namespace Go.Proofs.YtlaaldpejjlbkaaDoor
open Go.RowKit

section
variable (L V : Int) (g : Nat) (ts : List Tm) (u : ByteArray) (hu : u.size ≤ maxLen) (hl : ts.length ≤ 1048576) (hs : ∀ i (h : i < ts.length), (ts[i]).s.size ≤ maxLen) (w : World) (hb : g < w.heap.size) (ht : TermsIn w g 0 ts)
include hu hl hs hb ht
set_option maxRecDepth 100000 in
set_option maxHeartbeats 4000000 in
theorem sKeep_err (h : serB L V ts = false ∨ wordB L u.data.toList = false) :
    Calls Tryd.prog 5 #[.agg #[.int .i64 L, .int .i64 V, .slice (some ⟨g, 0, none⟩) ts.length ts.length], .string u] w (SerPost 0 0 [] (codeK L V ts u) w) := by
  obtain ⟨c, hcd⟩ : ∃ c, codeK L V ts u = c := ⟨_, rfl⟩
  rw [hcd]
  have HC := Lib.hid hcd
  clear hcd
  have HT := Lib.hid ht
  have HS := Lib.hid hs
  clear ht hs
  go_enter Tryd.func5, Tryd.ntmps5
  go_wp2_with fail
  refine (l01Is_c L V g 0 _ ts hl HS.out _ (by simp; omega) (HT.out.below (below2 w _ _) hb)).mono ?_
  rintro e w1 ⟨rfl, hb1⟩
  have hB := hb1
  simp only [World.size_alloc] at hB
  obtain ⟨hc, hf⟩ := bcellB hB
  have r0 : w1.cell? ⟨w.heap.size + 1, 0, none⟩ = some (.int .i64 0) := (hc _ _ (by omega)).trans (by go_simp)
  have r1 : w1.cell? ⟨w.heap.size + 1, 1, none⟩ = some (.int .i64 0) := (hc _ _ (by omega)).trans (by go_simp)
  have r2 : w1.cell? ⟨w.heap.size + 1, 2, none⟩ = some (.slice none 0 0) := (hc _ _ (by omega)).trans (by go_simp)
  have z0 : w1.frozen? ⟨w.heap.size + 1, 0, none⟩ = false := (hf _ _ (by omega)).trans (by go_simp)
  have z1 : w1.frozen? ⟨w.heap.size + 1, 1, none⟩ = false := (hf _ _ (by omega)).trans (by go_simp)
  have z2 : w1.frozen? ⟨w.heap.size + 1, 2, none⟩ = false := (hf _ _ (by omega)).trans (by go_simp)
  have x0 : w1.cell? ⟨w.heap.size, 0, none⟩ = some (.int .i64 L) := (hc _ _ (by omega)).trans (by go_simp)
  have x1 : w1.cell? ⟨w.heap.size, 1, none⟩ = some (.int .i64 V) := (hc _ _ (by omega)).trans (by go_simp)
  have x2 : w1.cell? ⟨w.heap.size, 2, none⟩ = some (.slice (some ⟨g, 0, none⟩) ts.length ts.length) := (hc _ _ (by omega)).trans (by go_simp)
  have hz := hB.size
  simp only [World.size_alloc] at hz
  have hzl : w.heap.size + 1 < w1.heap.size := by omega
  have hzk : w.heap.size < w1.heap.size := by omega
  have hW : Below w.heap.size w w1 := (below2 w _ _).trans (hb1.mono (by simp; omega))
  clear hb1 hB hc hf
  cases h1 : serB L V ts with
  | false =>
    obtain rfl : c = 1 := by rw [← HC.out]; simp [codeK, h1]
    go_wp2
    exact bodyPost_ret (v := .tuple #[.agg #[.int .i64 0, .int .i64 0, .slice none 0 0], .int .i64 1]) (by simp [results, Tryd.results5, go_sem, r0, r1, r2]) rfl (SerPost.err 1 rfl (by go_grown))
  | true =>
    have h2 : wordB L u.data.toList = false := by
      rcases h with h | h
      · rw [h1] at h; cases h
      · exact h
    obtain rfl : c = 2 := by rw [← HC.out]; simp [codeK, h1, h2]
    go_wp2_with (go_at_call 13; refine (l01Word_c L u hu _).mono ?_; rw [h2]; rintro e w' ⟨rfl, rfl⟩)
    exact bodyPost_ret (v := .tuple #[.agg #[.int .i64 0, .int .i64 0, .slice none 0 0], .int .i64 2]) (by simp [results, Tryd.results5, go_sem, r0, r1, r2, hzl]) rfl (SerPost.err 2 rfl (by go_grown))
set_option maxRecDepth 100000 in
set_option maxHeartbeats 4000000 in
theorem sKeep_dup (h1 : serB L V ts = true) (h2 : wordB L u.data.toList = true) (h3 : diffB u.data.toList = false) :
    Calls Tryd.prog 5 #[.agg #[.int .i64 L, .int .i64 V, .slice (some ⟨g, 0, none⟩) ts.length ts.length], .string u] w (SerPost 0 0 [] 2 w) := by
  obtain ⟨hL1, hL3, -, -, -⟩ := shape_out (show shapeB L V = true from by have h := h1; unfold serB at h; rw [Bool.and_eq_true] at h; exact h.1)
  unfold maxLen at hu
  have HT := Lib.hid ht
  have HS := Lib.hid hs
  clear ht hs
  go_enter Tryd.func5, Tryd.ntmps5
  go_wp2_with fail
  refine (l01Is_c L V g 0 _ ts hl HS.out _ (by simp; omega) (HT.out.below (below2 w _ _) hb)).mono ?_
  rintro e w1 ⟨rfl, hb1⟩
  have hB := hb1
  simp only [World.size_alloc] at hB
  obtain ⟨hc, hf⟩ := bcellB hB
  have r0 : w1.cell? ⟨w.heap.size + 1, 0, none⟩ = some (.int .i64 0) := (hc _ _ (by omega)).trans (by go_simp)
  have r1 : w1.cell? ⟨w.heap.size + 1, 1, none⟩ = some (.int .i64 0) := (hc _ _ (by omega)).trans (by go_simp)
  have r2 : w1.cell? ⟨w.heap.size + 1, 2, none⟩ = some (.slice none 0 0) := (hc _ _ (by omega)).trans (by go_simp)
  have z0 : w1.frozen? ⟨w.heap.size + 1, 0, none⟩ = false := (hf _ _ (by omega)).trans (by go_simp)
  have z1 : w1.frozen? ⟨w.heap.size + 1, 1, none⟩ = false := (hf _ _ (by omega)).trans (by go_simp)
  have z2 : w1.frozen? ⟨w.heap.size + 1, 2, none⟩ = false := (hf _ _ (by omega)).trans (by go_simp)
  have x0 : w1.cell? ⟨w.heap.size, 0, none⟩ = some (.int .i64 L) := (hc _ _ (by omega)).trans (by go_simp)
  have x1 : w1.cell? ⟨w.heap.size, 1, none⟩ = some (.int .i64 V) := (hc _ _ (by omega)).trans (by go_simp)
  have x2 : w1.cell? ⟨w.heap.size, 2, none⟩ = some (.slice (some ⟨g, 0, none⟩) ts.length ts.length) := (hc _ _ (by omega)).trans (by go_simp)
  have hz := hB.size
  simp only [World.size_alloc] at hz
  have hzl : w.heap.size + 1 < w1.heap.size := by omega
  have hzk : w.heap.size < w1.heap.size := by omega
  have hW : Below w.heap.size w w1 := (below2 w _ _).trans (hb1.mono (by simp; omega))
  have HT1 := Lib.hid (HT.out.below hW hb)
  have HW := Lib.hid hW
  clear hb1 hB hc hf hW
  rw [h1]
  go_wp2_with (first | (go_at_call 13; refine (l01Word_c L u hu _).mono ?_; rw [h2]; rintro e w' ⟨rfl, rfl⟩) | fail)
  go_loopw [7] (fun vi wr => ∃ k : Nat, k ≤ u.size ∧ vi = .int .i64 k ∧ diffT u.data.toList k = true ∧ Blk wr w1.heap.size 37 (metV u k) ∧ Below w1.heap.size w1 wr) (fun vi _ => u.size - (intOf vi).toNat)
  case atStart => exact ⟨0, Nat.zero_le _, rfl, rfl, Blk.new w1 _ _, below1 _ _⟩
  case round =>
    obtain ⟨k, hk, rfl, hd, hBl, hB⟩ := hrel
    have HD := Lib.hid hd
    have HBl := Lib.hid hBl
    have HB := Lib.hid hB
    have hzr := hB.size
    have bc := bcellB hB
    clear hd hBl hB
    obtain ⟨wo, rfl⟩ : ∃ wo : World, wo = wr := ⟨_, rfl⟩
    have r0 : wo.cell? ⟨w.heap.size + 1, 0, none⟩ = some (.int .i64 0) := (bc.1 _ _ (by omega)).trans r0
    have r1 : wo.cell? ⟨w.heap.size + 1, 1, none⟩ = some (.int .i64 0) := (bc.1 _ _ (by omega)).trans r1
    have r2 : wo.cell? ⟨w.heap.size + 1, 2, none⟩ = some (.slice none 0 0) := (bc.1 _ _ (by omega)).trans r2
    have z0 : wo.frozen? ⟨w.heap.size + 1, 0, none⟩ = false := (bc.2 _ _ (by omega)).trans z0
    have z1 : wo.frozen? ⟨w.heap.size + 1, 1, none⟩ = false := (bc.2 _ _ (by omega)).trans z1
    have z2 : wo.frozen? ⟨w.heap.size + 1, 2, none⟩ = false := (bc.2 _ _ (by omega)).trans z2
    have x0 : wo.cell? ⟨w.heap.size, 0, none⟩ = some (.int .i64 L) := (bc.1 _ _ (by omega)).trans x0
    have x1 : wo.cell? ⟨w.heap.size, 1, none⟩ = some (.int .i64 V) := (bc.1 _ _ (by omega)).trans x1
    have x2 : wo.cell? ⟨w.heap.size, 2, none⟩ = some (.slice (some ⟨g, 0, none⟩) ts.length ts.length) := (bc.1 _ _ (by omega)).trans x2
    have hWo := HW.out.trans (HB.out.mono (show w.heap.size ≤ w1.heap.size by omega))
    clear bc
    by_cases hlt : k < u.size
    · have hlb := wordB_gets h2 k hlt
      have ht0 := letB_true hlb
      have hlu := letU_of hlb
      obtain ⟨jn, hjn⟩ : ∃ jn : Nat, (u[k]).toNat - 48 = jn := ⟨_, rfl⟩
      rw [hjn] at hlu
      have hj3 : jn < 3 := by omega
      have hjc : ((u[k].toNat : Int) - 48) = (jn : Int) := by omega
      have hw8 : IntKind.u8.wrap ((u[k].toNat : Int) - 48) = (jn : Int) := by
        rw [hjc]
        simp [IntKind.wrap, IntKind.signed, IntKind.bits]
        omega
      have HSet := Lib.hid (metV_set hlt hj3 hlu)
      have HDs := Lib.hid (diffT_succ u.data.toList k)
      have HDn := Lib.hid (fun h => diffT_no (l := u.data.toList) (k := k) (n := u.data.toList.length) (by simpa using hlt) h)
      have hgd : u.data.toList.getD k 0 = u[k] := getD_at (by simpa using hlt)
      rw [hgd, ← hlu] at HDs HDn
      have q0 := (HBl.out.cell jn).trans (metV_get u k hj3)
      have f0 := HBl.out.frozen jn
      have e1 : (0 : Int) ≤ (jn : Int) := by omega
      have e2 : (jn : Int) < 3 := by omega
      have hnl := HBl.out.lt
      clear ht0 hlb hlu hjn hjc hgd
      cases hct : (u.data.toList.take k).contains (letU jn) with
      | true =>
        rw [hct] at q0
        go_wp2_with fail
        exact bodyPost_ret (v := .tuple #[.agg #[.int .i64 0, .int .i64 0, .slice none 0 0], .int .i64 2]) (by simp [results, Tryd.results5, go_sem, r0, r1, r2]) rfl (SerPost.err 2 rfl (by go_grown))
      | false =>
        rw [hct] at q0 HDs
        clear HDn hWo
        go_wp2_with fail
        go_roundw
        case rel => exact ⟨k + 1, by omega, by go_num, by rw [HDs.out, HD.out]; rfl, by rw [← HSet.out]; exact HBl.out.set_ jn _, HB.out.setCell (p := ⟨w1.heap.size, jn, none⟩) (Nat.le_refl _) _⟩
        case measure => simp [intOf]; omega
    · obtain rfl : k = u.size := by omega
      have := HD.out
      unfold diffB at h3
      rw [size_list] at h3
      rw [h3] at this
      cases this
set_option maxRecDepth 100000 in
set_option maxHeartbeats 4000000 in
theorem sKeep_ok (h1 : serB L V ts = true) (h2 : wordB L u.data.toList = true) (h3 : diffB u.data.toList = true) :
    Calls Tryd.prog 5 #[.agg #[.int .i64 L, .int .i64 V, .slice (some ⟨g, 0, none⟩) ts.length ts.length], .string u] w (SerPost L V (ts.filter (onlyT u)) 0 w) := by
  obtain ⟨hL1, hL3, -, -, -⟩ := shape_out (show shapeB L V = true from by have h := h1; unfold serB at h; rw [Bool.and_eq_true] at h; exact h.1)
  unfold maxLen at hu
  obtain ⟨i0, hi0, hi1, hi2, hi3⟩ := info_parts info_term
  have HLt := Lib.hid (ser_letters h1)
  have HT := Lib.hid ht
  have HS := Lib.hid hs
  clear ht hs
  go_enter Tryd.func5, Tryd.ntmps5
  go_wp2_with fail
  refine (l01Is_c L V g 0 _ ts hl HS.out _ (by simp; omega) (HT.out.below (below2 w _ _) hb)).mono ?_
  rintro e w1 ⟨rfl, hb1⟩
  have hB := hb1
  simp only [World.size_alloc] at hB
  obtain ⟨hc, hf⟩ := bcellB hB
  have r0 : w1.cell? ⟨w.heap.size + 1, 0, none⟩ = some (.int .i64 0) := (hc _ _ (by omega)).trans (by go_simp)
  have r1 : w1.cell? ⟨w.heap.size + 1, 1, none⟩ = some (.int .i64 0) := (hc _ _ (by omega)).trans (by go_simp)
  have r2 : w1.cell? ⟨w.heap.size + 1, 2, none⟩ = some (.slice none 0 0) := (hc _ _ (by omega)).trans (by go_simp)
  have z0 : w1.frozen? ⟨w.heap.size + 1, 0, none⟩ = false := (hf _ _ (by omega)).trans (by go_simp)
  have z1 : w1.frozen? ⟨w.heap.size + 1, 1, none⟩ = false := (hf _ _ (by omega)).trans (by go_simp)
  have z2 : w1.frozen? ⟨w.heap.size + 1, 2, none⟩ = false := (hf _ _ (by omega)).trans (by go_simp)
  have x0 : w1.cell? ⟨w.heap.size, 0, none⟩ = some (.int .i64 L) := (hc _ _ (by omega)).trans (by go_simp)
  have x1 : w1.cell? ⟨w.heap.size, 1, none⟩ = some (.int .i64 V) := (hc _ _ (by omega)).trans (by go_simp)
  have x2 : w1.cell? ⟨w.heap.size, 2, none⟩ = some (.slice (some ⟨g, 0, none⟩) ts.length ts.length) := (hc _ _ (by omega)).trans (by go_simp)
  have hz := hB.size
  simp only [World.size_alloc] at hz
  have hzl : w.heap.size + 1 < w1.heap.size := by omega
  have hzk : w.heap.size < w1.heap.size := by omega
  have hW : Below w.heap.size w w1 := (below2 w _ _).trans (hb1.mono (by simp; omega))
  have HT1 := Lib.hid (HT.out.below hW hb)
  have HW := Lib.hid hW
  clear hb1 hB hc hf hW
  rw [h1]
  go_wp2_with (first | (go_at_call 13; refine (l01Word_c L u hu _).mono ?_; rw [h2]; rintro e w' ⟨rfl, rfl⟩) | fail)
  go_loopw [7] (fun vi wr => ∃ k : Nat, k ≤ u.size ∧ vi = .int .i64 k ∧ diffT u.data.toList k = true ∧ Blk wr w1.heap.size 37 (metV u k) ∧ Below w1.heap.size w1 wr) (fun vi _ => u.size - (intOf vi).toNat)
  case atStart => exact ⟨0, Nat.zero_le _, rfl, rfl, Blk.new w1 _ _, below1 _ _⟩
  case round =>
    obtain ⟨k, hk, rfl, hd, hBl, hB⟩ := hrel
    have HD := Lib.hid hd
    have HBl := Lib.hid hBl
    have HB := Lib.hid hB
    have hzr := hB.size
    have bc := bcellB hB
    clear hd hBl hB
    obtain ⟨wo, rfl⟩ : ∃ wo : World, wo = wr := ⟨_, rfl⟩
    have r0 : wo.cell? ⟨w.heap.size + 1, 0, none⟩ = some (.int .i64 0) := (bc.1 _ _ (by omega)).trans r0
    have r1 : wo.cell? ⟨w.heap.size + 1, 1, none⟩ = some (.int .i64 0) := (bc.1 _ _ (by omega)).trans r1
    have r2 : wo.cell? ⟨w.heap.size + 1, 2, none⟩ = some (.slice none 0 0) := (bc.1 _ _ (by omega)).trans r2
    have z0 : wo.frozen? ⟨w.heap.size + 1, 0, none⟩ = false := (bc.2 _ _ (by omega)).trans z0
    have z1 : wo.frozen? ⟨w.heap.size + 1, 1, none⟩ = false := (bc.2 _ _ (by omega)).trans z1
    have z2 : wo.frozen? ⟨w.heap.size + 1, 2, none⟩ = false := (bc.2 _ _ (by omega)).trans z2
    have x0 : wo.cell? ⟨w.heap.size, 0, none⟩ = some (.int .i64 L) := (bc.1 _ _ (by omega)).trans x0
    have x1 : wo.cell? ⟨w.heap.size, 1, none⟩ = some (.int .i64 V) := (bc.1 _ _ (by omega)).trans x1
    have x2 : wo.cell? ⟨w.heap.size, 2, none⟩ = some (.slice (some ⟨g, 0, none⟩) ts.length ts.length) := (bc.1 _ _ (by omega)).trans x2
    have hWo := HW.out.trans (HB.out.mono (show w.heap.size ≤ w1.heap.size by omega))
    clear bc
    by_cases hlt : k < u.size
    · have hlb := wordB_gets h2 k hlt
      have ht0 := letB_true hlb
      have hlu := letU_of hlb
      obtain ⟨jn, hjn⟩ : ∃ jn : Nat, (u[k]).toNat - 48 = jn := ⟨_, rfl⟩
      rw [hjn] at hlu
      have hj3 : jn < 3 := by omega
      have hjc : ((u[k].toNat : Int) - 48) = (jn : Int) := by omega
      have hw8 : IntKind.u8.wrap ((u[k].toNat : Int) - 48) = (jn : Int) := by
        rw [hjc]
        simp [IntKind.wrap, IntKind.signed, IntKind.bits]
        omega
      have HSet := Lib.hid (metV_set hlt hj3 hlu)
      have HDs := Lib.hid (diffT_succ u.data.toList k)
      have HDn := Lib.hid (fun h => diffT_no (l := u.data.toList) (k := k) (n := u.data.toList.length) (by simpa using hlt) h)
      have hgd : u.data.toList.getD k 0 = u[k] := getD_at (by simpa using hlt)
      rw [hgd, ← hlu] at HDs HDn
      have q0 := (HBl.out.cell jn).trans (metV_get u k hj3)
      have f0 := HBl.out.frozen jn
      have e1 : (0 : Int) ≤ (jn : Int) := by omega
      have e2 : (jn : Int) < 3 := by omega
      have hnl := HBl.out.lt
      clear ht0 hlb hlu hjn hjc hgd
      cases hct : (u.data.toList.take k).contains (letU jn) with
      | true =>
        rw [hct] at q0
        have h4 := HDn.out hct
        unfold diffB at h3
        rw [h3] at h4
        cases h4
      | false =>
        rw [hct] at q0 HDs
        clear HDn hWo
        go_wp2_with fail
        go_roundw
        case rel => exact ⟨k + 1, by omega, by go_num, by rw [HDs.out, HD.out]; rfl, by rw [← HSet.out]; exact HBl.out.set_ jn _, HB.out.setCell (p := ⟨w1.heap.size, jn, none⟩) (Nat.le_refl _) _⟩
        case measure => simp [intOf]; omega
    · obtain rfl : k = u.size := by omega
      have HFl := Lib.hid (fun j (hj : j < 3) => (HBl.out.cell j).trans (metV_get u u.size hj))
      rw [take_all] at HFl
      have hnl := HBl.out.lt
      have HTo := Lib.hid (HT1.out.below HB.out (by omega))
      clear hk hlt
      go_wp2_with fail
      refine (l01Empty_c L V _ rfl _).mono ?_
      rintro e w2 ⟨g1, rfl, hO, hb2⟩
      have hz2 := hb2.size
      have HO := Lib.hid hO
      have HB2 := Lib.hid hb2
      clear hO hb2
      go_wp2_with fail
      go_loopw [9] (AccRel (fun k => (ts.take k).filter (onlyT u)) ts.length wo.heap.size w2.heap.size (.int .i64 L) (.int .i64 V) wo) (fun vi _ => ts.length - (intOf vi).toNat)
      case atStart =>
        exact ⟨0, _, 0, 0, Nat.zero_le _, rfl, rfl, by simpa using HO.out.alloc _, fun e => by have := (HO.out.lt _ e).2; omega, Blk.new _ _ _, HB2.out.alloc (by omega) _⟩
      case round =>
        obtain ⟨k, av, lv, cv, hk, rfl, hlv, hOk, hnv, hBl, hB⟩ := hrel
        have HLv := Lib.hid hlv
        have HOk := Lib.hid hOk
        have HBl := Lib.hid hBl
        have HBk := Lib.hid hB
        have HNv := Lib.hid hnv
        have hzn := hBl.lt
        have hzr := hB.size
        have hz0 : w.heap.size < wr.heap.size := by omega
        have bc := bcellB hB
        have x2 : wr.cell? ⟨w.heap.size, 2, none⟩ = some (.slice (some ⟨g, 0, none⟩) ts.length ts.length) := (bc.1 _ _ (by omega)).trans x2
        have HFr := Lib.hid (fun j (hj : j < 3) => (bc.1 w1.heap.size j hnl).trans (HFl.out j hj))
        clear hOk hBl hB hnv bc hlv
        by_cases hlt : k < ts.length
        · have HFS := Lib.hid (filter_snoc (p := onlyT u) hlt)
          have HFL := Lib.hid (filter_le (p := onlyT u) (ts := ts) (k := k))
          obtain ⟨c0, c1, c2⟩ := HTo.out.below HBk.out (by omega) k hlt
          have hsz := HS.out k hlt
          have HWd := Lib.hid (HLt.out _ (List.getElem_mem hlt))
          obtain ⟨s, n, d, het⟩ : ∃ s n d, ts[k] = ⟨s, n, d⟩ := ⟨_, _, _, rfl⟩
          rw [het] at c0 c1 c2 hsz HFS HWd
          simp only [Nat.zero_add] at c0 c1 c2 hsz HFS HWd
          clear het
          unfold maxLen at hsz
          have hkI : (0 : Int) ≤ (k : Int) := by omega
          have hkL : (k : Int) < (ts.length : Int) := by omega
          obtain ⟨wb, rfl⟩ : ∃ wb : World, wb = wr := ⟨_, rfl⟩
          go_wp2_with fail
          go_loop [10, 11] (fun va vj => ∃ j : Nat, j ≤ s.size ∧ vj = .int .i64 j ∧ va = .bool ((s.data.toList.take j).all (fun c => u.data.toList.contains c))) (fun _ vj => s.size - (intOf vj).toNat)
          case atStart => exact ⟨0, Nat.zero_le _, rfl, rfl⟩
          case round =>
            obtain ⟨j, hj, rfl, rfl⟩ := hrel
            by_cases hltj : j < s.size
            · have hlb := wordB_gets HWd.out j hltj
              have HSn := Lib.hid (take_snoc s j hltj)
              have ht0 := letB_true hlb
              have hlu := letU_of hlb
              obtain ⟨jn, hjn⟩ : ∃ jn : Nat, (s[j]).toNat - 48 = jn := ⟨_, rfl⟩
              rw [hjn] at hlu
              have hj3 : jn < 3 := by omega
              have hjc : ((s[j].toNat : Int) - 48) = (jn : Int) := by omega
              have hw8 : IntKind.u8.wrap ((s[j].toNat : Int) - 48) = (jn : Int) := by
                rw [hjc]
                simp [IntKind.wrap, IntKind.signed, IntKind.bits]
                omega
              have q0 := HFr.out jn hj3
              have HAll : Hid ((s.data.toList.take (j + 1)).all (fun c => u.data.toList.contains c) = ((s.data.toList.take j).all (fun c => u.data.toList.contains c) && u.data.toList.contains (letU jn))) := Lib.hid (by rw [HSn.out, List.all_append, hlu]; simp)
              have e1 : (0 : Int) ≤ (jn : Int) := by omega
              have e2 : (jn : Int) < 3 := by omega
              clear ht0 hlb hlu hjn hjc
              cases hva : (s.data.toList.take j).all (fun c => u.data.toList.contains c) with
              | true =>
                rw [hva, Bool.true_and] at HAll
                go_wp2_with fail
                go_round
                case rel => exact ⟨j + 1, by omega, by go_num, by rw [HAll.out]; simp⟩
                case measure => simp [intOf]; omega
              | false =>
                rw [hva, Bool.false_and] at HAll
                go_wp2_with fail
                go_round
                case rel => exact ⟨j + 1, by omega, by go_num, by rw [HAll.out]⟩
                case measure => simp [intOf]; omega
            · obtain rfl : j = s.size := by omega
              cases hq1 : (s.data.toList.take s.size).all (fun c => u.data.toList.contains c) with
              | true =>
                have hq2 : onlyT u ⟨s, n, d⟩ = true := by unfold onlyT; rw [← take_all s]; exact hq1
                rw [hq2, if_pos rfl] at HFS
                clear hq2
                go_wp2_with fail
                have n2 : wb.cell? ⟨w2.heap.size, 2, none⟩ = some (.slice av lv cv) := HBl.out.cell 2
                have nf : wb.frozen? ⟨w2.heap.size, 2, none⟩ = false := HBl.out.frozen 2
                have e2 := Ne.symm HNv.out
                have nf2 : (wb.alloc (.cells #[.string s, .int .i64 n, .int .i64 d] 43)).drew.frozen? ⟨w2.heap.size, 2, none⟩ = false := (frozen_alloc_lt _ hzn).trans nf
                have nc2 : (wb.alloc (.cells #[.string s, .int .i64 n, .int .i64 d] 43)).drew.cell? ⟨w2.heap.size, 2, none⟩ = some (.slice av lv cv) := ((below1 wb _).cell (p := ⟨w2.heap.size, 2, none⟩) hzn).trans n2
                go_region_law
                  ((refine step_append_lies _ (by rfl) _ _ _ (by rfl) wo.heap.size 43 i0 _ 3 32 Tryd.underlying26 hi0 hi1 hi2 hi3 rfl (by omega) (.slice av lv cv) lv (cellsT ((ts.take k).filter (onlyT u))) (by rfl) (by have h := HOk.out; unfold OwnT at h; rw [← HLv.out] at h; exact (h.alloc _).drew)
                      ⟨wb.heap.size, 0, none⟩ 1 1 [.string s, .int .i64 n, .int .i64 d] (by rfl) (by rfl) (World.news_of_block (cs := #[.string s, .int .i64 n, .int .i64 d]) (t := 43) (fr := (0, 0)) (heap_alloc_new wb _)) (by simp [Value.oneCell'])
                      (by omega) (by have := HFL.out; rw [← HLv.out] at this; unfold maxLen; omega) (by have := HFL.out; rw [← HLv.out] at this; omega) (by simp; omega) (wb.heap.size + 1) (by simp) ?_; intro gg cg w3 hown1 hgrow hat hlt2; have q0 := (hgrow.cell_far ⟨w2.heap.size, 2, none⟩ (by simp; omega) e2).trans nc2; have q1 := (hgrow.frozen_far ⟨w2.heap.size, 2, none⟩ (by simp; omega) e2).trans nf2))
                all_goals
                  have hOs := Lib.hid (AccRel.step (F := fun k => (ts.take k).filter (onlyT u)) (m := ts.length) (x := .int .i64 L) (y := .int .i64 V) ⟨s, n, d⟩ (by omega) HFS.out HLv.out HOk.out HNv.out HBl.out HBk.out (by omega) (by omega) hown1 hgrow hat)
                  clear hown1 hgrow hat
                  go_wp2
                  go_roundw
                  case rel => exact hOs.out
                  case measure => simp [intOf]; omega
              | false =>
                have hq2 : onlyT u ⟨s, n, d⟩ = false := by unfold onlyT; rw [← take_all s]; exact hq1
                rw [hq2] at HFS
                have HFS2 := Lib.hid (show (fun k => (ts.take k).filter (onlyT u)) (k + 1) = (ts.take k).filter (onlyT u) from by have h := HFS.out; simpa using h)
                clear hq2
                go_wp2
                go_roundw
                case rel => exact AccRel.skip (F := fun k => (ts.take k).filter (onlyT u)) (by omega) HFS2.out HLv.out HOk.out HNv.out HBl.out HBk.out
                case measure => simp [intOf]; omega
        · obtain rfl : k = ts.length := by omega
          have n0 : wr.cell? ⟨w2.heap.size, 0, none⟩ = some (.int .i64 L) := HBl.out.cell 0
          have n1 : wr.cell? ⟨w2.heap.size, 1, none⟩ = some (.int .i64 V) := HBl.out.cell 1
          have n2 : wr.cell? ⟨w2.heap.size, 2, none⟩ = some (.slice av lv cv) := HBl.out.cell 2
          have bc := bcellB HBk.out
          have r0 : wr.cell? ⟨w.heap.size + 1, 0, none⟩ = some (.int .i64 0) := (bc.1 _ _ (by omega)).trans r0
          have r1 : wr.cell? ⟨w.heap.size + 1, 1, none⟩ = some (.int .i64 0) := (bc.1 _ _ (by omega)).trans r1
          have r2 : wr.cell? ⟨w.heap.size + 1, 2, none⟩ = some (.slice none 0 0) := (bc.1 _ _ (by omega)).trans r2
          have z0 : wr.frozen? ⟨w.heap.size + 1, 0, none⟩ = false := (bc.2 _ _ (by omega)).trans z0
          have z1 : wr.frozen? ⟨w.heap.size + 1, 1, none⟩ = false := (bc.2 _ _ (by omega)).trans z1
          have z2 : wr.frozen? ⟨w.heap.size + 1, 2, none⟩ = false := (bc.2 _ _ (by omega)).trans z2
          have hE : (ts.take ts.length).filter (onlyT u) = ts.filter (onlyT u) := by rw [List.take_length]
          have HO2 := Lib.hid (show OwnT wr wo.heap.size (.slice av lv cv) (ts.filter (onlyT u)) from by rw [← hE]; exact HOk.out)
          have HL2 := Lib.hid (show lv = (ts.filter (onlyT u)).length from by rw [← hE]; exact HLv.out)
          have HW2 := Lib.hid (hWo.trans (HBk.out.mono (by omega)))
          clear bc hE
          go_wp2
          obtain ⟨a', c', he, hle, hN⟩ := HO2.out.newRow
          injection he with e1 e2 e3
          subst e1 e3
          have hW3 := HW2.out
          refine bodyPost_ret (v := .tuple #[.agg #[.int .i64 L, .int .i64 V, .slice av (ts.filter (onlyT u)).length cv], .int .i64 0]) (by rw [← HL2.out]; simp [results, Tryd.results5, go_sem, r0, r1, r2]) rfl ⟨av, cv, rfl, by go_grown, ?_⟩
          exact (hN.far3 (by omega)).mono (by omega) (Nat.le_refl _)
end
end Go.Proofs.YtlaaldpejjlbkaaDoor
