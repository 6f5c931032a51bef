/-
  The leading part of a group word, of the program: contracts of LeadingPart.
  The leading part of a group word, of the model: contracts of LeadingPart.
  'FnExactLeadingPart' returns true at every input for which the two functions' contracts stand: the program's LeadingPart and its model's return the same series and code, in memory of its own, and the argument reads as before.
  'FnExactLeadingPart' returns true at every input: the program's LeadingPart and its model's agree in series and code, the result lies in memory of its own, and the word reads as before. No condition.
-/
import Derived.Test.YtddfijlgehpjfaaGreatDoorDpt
import Derived.Test.YtddfijlgehpjfaaGreatDoorPartOf
import Derived.Test.YtddfijlgehpjfaaGreatDoorSerT
import Derived.Test.YtddfijlgehpjfaaGreatDoorGwN
import Derived.Test.YtddfijlgehpjfaaGreatDoorSerP
import Derived.Test.YtddfijlgehpjfaaGreatDoorOpenR
import Derived.Test.YtddfijlgehpjfaaGreatDoorDoor
namespace Go.Proofs.YtddfijlgehpjfaaGreatDoor
open Go.RowKit

theorem depL_bd : ∀ (ts : List Tm), (∀ i (h : i < ts.length), (ts[i]).s.size ≤ 5) → 0 ≤ depL ts ∧ depL ts ≤ 5
  | [], _ => by simp [depL]
  | t :: r, h => by
    have h0 := h 0 (by simp)
    simp only [List.getElem_cons_zero] at h0
    rw [depL]
    split
    · exact depL_bd r (fun i hi => by have := h (i + 1) (by simp; omega); simpa using this)
    · omega
/-- the leading part of a row -/
def lpL (ts : List Tm) : List Tm := if depL ts = 0 then [] else partL (depL ts) ts
theorem lpL_len (ts : List Tm) : (lpL ts).length ≤ ts.length := by
  unfold lpL
  split
  · simp
  · exact List.length_filter_le _ _

set_option maxHeartbeats 1000000 in
theorem iLp_1 (L V : Int) (lo hi : Nat) (a : Option Addr) (cap : Nat) (z : List Int) (hl : z.length ≤ 1048576) (hn : shapeB L V = false ∨ (shapeB L V = true ∧ grpB L z = false)) (w : World) (hr : IRow lo hi w a z) (hh : hi ≤ w.heap.size) :
    Calls Tryz.prog 6 #[.int .i64 L, .int .i64 V, .slice a z.length cap] w (SerPost 0 0 [] 2 w) := by
  have HS := Lib.hid (fun W (hb : Below w.heap.size w W) => iGow_1 L V lo hi a cap z hl hn W (hr.below hb hh) (by have := hb.size; omega))
  clear hr hn
  go_enter Tryz.func6, Tryz.ntmps6
  go_wp2_with fail
  refine (HS.out _ (below1 _ _)).mono ?_
  rintro e w5 ⟨a5, c5, rfl, hb5, hN5⟩
  have hT := (T3.new w 0 0 none 0 0 25).next hb5
  have HB5 := Lib.hid ((below1 w (.cells #[.int .i64 0, .int .i64 0, .slice none 0 0] 25)).trans (hb5.mono (by simp)))
  have hz5 := HB5.out.size
  obtain ⟨-, e0, e1, e2, -⟩ := (hT.fill (x' := .int .i64 0) (y' := .int .i64 0) (z' := .slice none 0 0)).alloc (.cells #[.int .i64 0, .int .i64 0, .slice a5 0 c5] 25)
  obtain ⟨hz1, r0, r1, r2, z0, z1, z2⟩ := hT
  clear hb5 hN5
  go_wp2
  refine bodyPost_ret (v := .tuple #[.agg #[.int .i64 0, .int .i64 0, .slice none 0 0], .int .i64 2]) (by simp [results, Tryz.results6, go_sem, e0, e1, e2]) rfl (SerPost.err 2 rfl ?_)
  have hW := HB5.out
  go_grown

set_option maxHeartbeats 2000000 in
theorem iLp_2 (D N : Nat) (hsh : shapeB (D : Int) (N : Int) = true) (lo hi : Nat) (a : Option Addr) (cap : Nat) (z : List Int) (hl : z.length ≤ 1048576) (hg : grpB (D : Int) z = true) (h : VF) (hq : sigV (pthG D z) (allW D N) N z.length = some h) (hR : SigRow (termsOf h (allW D N))) (w : World) (hr : IRow lo hi w a z) (hh : hi ≤ w.heap.size) :
    Calls Tryz.prog 6 #[.int .i64 D, .int .i64 N, .slice a z.length cap] w (SerPost D N (lpL (termsOf h (allW D N))) 0 w) := by
  have HS := Lib.hid (fun W (hb : Below w.heap.size w W) => iGow_full D N hsh lo hi a cap z hl hg h hq W (hr.below hb hh) (by have := hb.size; omega))
  have HR := Lib.hid hR
  have HV := Lib.hid (ser_terms hsh (sigV_good hq))
  clear hr hsh hg hq hR
  go_enter Tryz.func6, Tryz.ntmps6
  go_wp2_with fail
  refine (HS.out _ (below1 _ _)).mono ?_
  rintro e w5 ⟨a5, rfl, hb5, hN5⟩
  obtain ⟨ts, hts⟩ : ∃ ts, termsOf h (allW D N) = ts := ⟨_, rfl⟩
  rw [hts] at hN5 HR HV ⊢
  have HTs := Lib.hid hts
  clear hts
  have hT := (T3.new w 0 0 none 0 0 25).next hb5
  have HB5 := Lib.hid ((below1 w (.cells #[.int .i64 0, .int .i64 0, .slice none 0 0] 25)).trans (hb5.mono (by simp)))
  have hz5 := HB5.out.size
  rcases hN5 with h0 | ⟨g, rfl, hg1, hg2, hg3, hg4⟩
  · exact absurd h0 HR.out.ne
  have HTm := Lib.hid hg4
  have HT5 := Lib.hid hT
  have hzw := hT.1
  clear hb5 hg3 hg4 hT
  have hsm : ∀ i (hi : i < ts.length), (ts[i]).s.size ≤ maxLen := fun i hi => Nat.le_trans (HR.out.small i hi) (by decide)
  have hlen : ts.length ≤ 1048576 := by have := HR.out.len; omega
  have hdb := depL_bd ts HR.out.small
  have HC := Lib.hid (fun W (hb : Below w5.heap.size w5 W) => depthOf_c D N g 0 ts.length ts hlen (Nat.le_refl _) hsm HR.out.asc W (Nat.lt_of_lt_of_le hg2 hb.size) (HTm.out.below hb hg2))
  have HP := Lib.hid (fun W (hb : Below w5.heap.size w5 W) => iPart_3 D N (depL ts) g ts W HV.out (inB_yes hdb) hlen hsm (Nat.lt_of_lt_of_le hg2 hb.size) (HTm.out.below hb hg2))
  have HE := Lib.hid (fun W => newSeries_c D N none 0 [] (by simp) (fun i hi => absurd hi (Nat.not_lt_zero _)) W (.inl rfl))
  clear hsm hlen hdb
  go_wp2_with fail
  refine (HC.out _ (below1 _ _)).mono ?_
  rintro e w6 ⟨rfl, hb6⟩
  have hX := (T3.new w5 D N (some ⟨g, 0, none⟩) ts.length ts.length 25).next hb6
  have HB6 := Lib.hid ((below1 w5 (.cells #[.int .i64 D, .int .i64 N, .slice (some ⟨g, 0, none⟩) ts.length ts.length] 25)).trans (hb6.mono (by simp)))
  have HT6 := Lib.hid (HT5.out.next HB6.out)
  have hz6 := HB6.out.size
  obtain ⟨-, s0, s1, s2, -, -, -⟩ := hX
  clear hb6
  have HW6 := Lib.hid (HB5.out.trans (HB6.out.mono hz5))
  by_cases hd : depL ts = 0
  · have HL := Lib.hid (show lpL (termsOf h (allW D N)) = [] from by rw [HTs.out]; unfold lpL; rw [if_pos hd])
    rw [hd]
    go_wp2_with fail
    refine (HE.out _).mono ?_
    rintro e w7 ⟨gb, rfl, hb7, hgb, hM7, hT7⟩
    have HT7 := Lib.hid (HT6.out.next hb7)
    have HW7 := Lib.hid (HW6.out.trans (hb7.mono (by omega)))
    have HN7 := Lib.hid (NewRow.of_to (lo := w6.heap.size) hgb hM7 hT7)
    obtain ⟨hzr, r0, r1, r2, z0, z1, z2⟩ := HT7.out
    clear hb7 hM7 hT7
    go_wp2
    refine bodyPost_ret (v := .tuple #[.agg #[.int .i64 D, .int .i64 N, .slice (some ⟨gb, 0, none⟩) 0 0], .int .i64 0]) (by simp [results, Tryz.results6, go_sem, r0, r1, r2]) rfl ?_
    rw [HL.out]
    refine ⟨_, _, rfl, ?_, ?_⟩
    · have hW := HW7.out
      go_grown
    · exact (((HN7.out.far1s (by omega)).far1s (by omega)).far1s (by omega)).mono (by omega) (by simp)
  · have HL := Lib.hid (show lpL (termsOf h (allW D N)) = partL (depL ts) ts from by rw [HTs.out]; unfold lpL; rw [if_neg hd])
    go_wp2_with fail
    refine (HP.out _ HB6.out).mono ?_
    rintro e w7 ⟨a7, c7, rfl, hb7, hN7⟩
    have HT7 := Lib.hid (HT6.out.next hb7)
    have HW7 := Lib.hid (HW6.out.trans (hb7.mono (by omega)))
    have HN7 := Lib.hid hN7
    obtain ⟨hzr, r0, r1, r2, z0, z1, z2⟩ := HT7.out
    clear hb7 hN7
    go_wp2
    refine bodyPost_ret (v := .tuple #[.agg #[.int .i64 D, .int .i64 N, .slice a7 (partL (depL ts) ts).length c7], .int .i64 0]) (by simp [results, Tryz.results6, go_sem, r0, r1, r2]) rfl ?_
    rw [HL.out]
    refine ⟨_, _, rfl, ?_, ?_⟩
    · have hW := HW7.out
      go_grown
    · exact (((HN7.out.far1s (by omega)).far1s (by omega)).far1s (by omega)).mono (by omega) (by simp)
end Go.Proofs.YtddfijlgehpjfaaGreatDoor

namespace Go.Proofs.YtddfijlgehpjfaaGreatDoor
open Go.RowKit

set_option maxHeartbeats 1000000 in
theorem sLp_1 (L V : Int) (lo hi : Nat) (a : Option Addr) (cap : Nat) (z : List Int) (hl : z.length ≤ 1048576) (hn : codeG L V z = 2) (w : World) (hr : IRow lo hi w a z) (hh : hi ≤ w.heap.size) :
    Calls Tryz.prog 4 #[.int .i64 L, .int .i64 V, .slice a z.length cap] w (SerPost 0 0 [] 2 w) := by
  have HC := Lib.hid (l09Code_c L V lo hi a cap z hl (w.alloc (.cells #[.int .i64 0, .int .i64 0, .slice none 0 0] 25)) (hr.below (below1 w _) hh))
  rw [hn] at HC
  clear hr hn
  go_enter Tryz.func4, Tryz.ntmps4
  go_wp2_with (go_at_call 12; refine HC.out.mono ?_; rintro e w' ⟨rfl, rfl⟩)
  refine bodyPost_ret (v := .tuple #[.agg #[.int .i64 0, .int .i64 0, .slice none 0 0], .int .i64 2]) (by simp [results, Tryz.results4, go_sem]) rfl (SerPost.err 2 rfl ?_)
  go_grown

set_option maxHeartbeats 2000000 in
theorem sLp_2 (D N : Nat) (hsh : shapeB (D : Int) (N : Int) = true) (lo hi : Nat) (a : Option Addr) (cap : Nat) (z : List Int) (hl : z.length ≤ 1048576) (hg : grpB (D : Int) z = true) (h : VF) (hq : RepV (allW D N) h (gwG z z.length)) (w : World) (hr : IRow lo hi w a z) (hh : hi ≤ w.heap.size) :
    Calls Tryz.prog 4 #[.int .i64 D, .int .i64 N, .slice a z.length cap] w (SerPost D N (lpL (termsOf h (allW D N))) 0 w) := by
  have hsz := shape_out hsh
  have hD : 1 ≤ D ∧ D ≤ 3 := by omega
  have hN : 1 ≤ N ∧ N ≤ 5 := by omega
  have hG := grpB_true hg
  have hz : ∀ x ∈ z, Six x ∧ x.natAbs ≤ D := fun x hx => ⟨six_of hG x hx, by have := hG.lo x hx; have := hG.hi x hx; omega⟩
  have HC := Lib.hid (l09Code_c (D : Int) (N : Int) lo hi a cap z hl (w.alloc (.cells #[.int .i64 0, .int .i64 0, .slice none 0 0] 25)) (hr.below (below1 w _) hh))
  rw [show codeG (D : Int) (N : Int) z = 0 from by simp [codeG, hsh, hg]] at HC
  have HS := Lib.hid (l09Sig_c D N hD hN lo hi a cap z hG.len hz (w.alloc (.cells #[.int .i64 0, .int .i64 0, .slice none 0 0] 25)) (hr.below (below1 w _) hh) (by simp; omega))
  have HQ := Lib.hid hq
  have HR := Lib.hid (sig_row hD.2 hN.2 hq)
  clear hr hsh hg hq hz hG hsz
  go_enter Tryz.func4, Tryz.ntmps4
  go_wp2_with (first | (go_at_call 12; refine HC.out.mono ?_; rintro e w' ⟨rfl, rfl⟩) | fail)
  refine HS.out.mono ?_
  rintro e w5 ⟨q, a5, c5, hq1, rfl, hlc, hb5, hN5⟩
  have hts := rep_terms hq1 HQ.out
  have HTs := Lib.hid hts
  obtain ⟨ts, hts2⟩ : ∃ ts, termsOf q (allW D N) = ts := ⟨_, rfl⟩
  rw [← hts, hts2] at HR
  rw [hts2] at hN5 hlc ⊢
  rw [hts2] at HTs
  have hT := (T3.new w 0 0 none 0 0 25).next hb5
  have HB5 := Lib.hid ((below1 w (.cells #[.int .i64 0, .int .i64 0, .slice none 0 0] 25)).trans (hb5.mono (by simp)))
  have hz5 := HB5.out.size
  rcases hN5 with h0 | ⟨g, rfl, hg1, hg2, hg3, hg4⟩
  · exact absurd h0 HR.out.ne
  have HTm := Lib.hid hg4
  have HT5 := Lib.hid hT
  have hzw := hT.1
  clear hb5 hg3 hg4 hT hts2 hq1 hts
  have hsm : ∀ i (hi : i < ts.length), (ts[i]).s.size ≤ maxLen := fun i hi => Nat.le_trans (HR.out.small i hi) (by decide)
  have hlen : ts.length ≤ 1048576 := by have := HR.out.len; omega
  have HDc := Lib.hid (fun W (hb : Below w5.heap.size w5 W) => l09Depth_c D N g 0 c5 ts hlen hsm W (Nat.lt_of_lt_of_le hg2 hb.size) (HTm.out.below hb hg2))
  have HP := Lib.hid (fun W (hb : Below w5.heap.size w5 W) => l01Part_c D N (depL ts) g 0 c5 ts hlen hsm W (Nat.lt_of_lt_of_le hg2 hb.size) (HTm.out.below hb hg2))
  have HE := Lib.hid (fun W => l01Empty_c (D : Int) (N : Int) (.slice (some ⟨g, 0, none⟩) ts.length c5) rfl W)
  clear hsm hlen
  go_wp2_with fail
  refine (HDc.out _ (below1 _ _)).mono ?_
  rintro e w6 ⟨rfl, hb6⟩
  have hX := (T3.new w5 D N (some ⟨g, 0, none⟩) ts.length c5 25).next hb6
  have HB6 := Lib.hid ((below1 w5 (.cells #[.int .i64 D, .int .i64 N, .slice (some ⟨g, 0, none⟩) ts.length c5] 25)).trans (hb6.mono (by simp)))
  have HT6 := Lib.hid (HT5.out.next HB6.out)
  have hz6 := HB6.out.size
  obtain ⟨-, s0, s1, s2, -, -, -⟩ := hX
  clear hb6
  have HW6 := Lib.hid (HB5.out.trans (HB6.out.mono hz5))
  by_cases hd : depL ts = 0
  · have HL := Lib.hid (show lpL (termsOf h (allW D N)) = [] from by rw [← HTs.out]; unfold lpL; rw [if_pos hd])
    rw [hd]
    go_wp2_with fail
    refine (HE.out _).mono ?_
    rintro e w7 ⟨g7, rfl, hO7, hb7⟩
    have HT7 := Lib.hid (HT6.out.next hb7)
    have HW7 := Lib.hid (HW6.out.trans (hb7.mono (by omega)))
    have HO7 := Lib.hid hO7
    obtain ⟨hzr, r0, r1, r2, z0, z1, z2⟩ := HT7.out
    clear hb7 hO7
    go_wp2
    refine bodyPost_ret (v := .tuple #[.agg #[.int .i64 D, .int .i64 N, .slice (some ⟨g7, 0, none⟩) 0 0], .int .i64 0]) (by simp [results, Tryz.results4, go_sem, r0, r1, r2]) rfl ?_
    rw [HL.out]
    refine ⟨_, _, rfl, ?_, .inl rfl⟩
    have hW := HW7.out
    go_grown
  · have HL := Lib.hid (show lpL (termsOf h (allW D N)) = partL (depL ts) ts from by rw [← HTs.out]; unfold lpL; rw [if_neg hd])
    go_wp2_with fail
    refine (HP.out _ HB6.out).mono ?_
    rintro e w7 ⟨a7, c7, rfl, hb7, hN7⟩
    have HT7 := Lib.hid (HT6.out.next hb7)
    have HW7 := Lib.hid (HW6.out.trans (hb7.mono (by omega)))
    have HN7 := Lib.hid hN7
    obtain ⟨hzr, r0, r1, r2, z0, z1, z2⟩ := HT7.out
    clear hb7 hN7
    go_wp2
    refine bodyPost_ret (v := .tuple #[.agg #[.int .i64 D, .int .i64 N, .slice a7 (partL (depL ts) ts).length c7], .int .i64 0]) (by simp [results, Tryz.results4, go_sem, r0, r1, r2]) rfl ?_
    rw [HL.out]
    refine ⟨_, _, rfl, ?_, ?_⟩
    · have hW := HW7.out
      go_grown
    · exact (((HN7.out.far1s (by omega)).far1s (by omega)).far1s (by omega)).mono (by omega) (by simp)
end Go.Proofs.YtddfijlgehpjfaaGreatDoor

namespace Go.Proofs.YtddfijlgehpjfaaGreatDoor
open Go.RowKit

set_option maxRecDepth 100000 in
set_option maxHeartbeats 8000000 in
theorem law_LeadingPart (n0 : Int) (n1 : Int) (a : Option Addr) (cap : Nat) (ps : List Int) (_hl : ps.length ≤ maxLen) (w : World) (hr : IRow 0 w.heap.size w a ps)
    (L' V' c' : Int) (ts' : List Tm) (hl' : ts'.length ≤ 1048576)
    (hS : ∀ (W : World) (b : Option Addr) (k : Nat), ps.length ≤ 1048576 → IRow 0 W.heap.size W b ps → Calls Tryz.prog 4 #[.int .i64 n0, .int .i64 n1, .slice b ps.length k] W (SerPost L' V' ts' c' W))
    (hI : ∀ (W : World) (b : Option Addr) (k : Nat), ps.length ≤ 1048576 → IRow 0 W.heap.size W b ps → Calls Tryz.prog 6 #[.int .i64 n0, .int .i64 n1, .slice b ps.length k] W (SerPost L' V' ts' c' W))
    : Calls Tryz.prog 3 #[.int .i64 n0, .int .i64 n1, .slice a ps.length cap] w fun e w' => e = .returned (.bool true) ∧ Below w.heap.size w w' := by
  have HSp := Lib.hid hS
  have HIm := Lib.hid hI
  have R_0 := Lib.hid hr
  clear hS hI hr
  by_cases hbig : (1048576 : Int) < (ps.length : Int)
  · go_enter Tryz.func3, Tryz.ntmps3
    go_wp2
    go_ret
    exact ⟨rfl, Below.refl _ _⟩
  have hl2 : ps.length ≤ 1048576 := by omega
  go_enter Tryz.func3, Tryz.ntmps3
  go_wp2_with fail
  refine (toInt64S_new 0 w.heap.size a cap ps hl2 _ R_0.out (by omega)).mono ?_
  rintro e w1 ⟨xs, rfl, hb1, hN1⟩
  have hz1 := hb1.size
  have R_1 := Lib.hid (R_0.out.below hb1 (by omega))
  have B1 := Lib.hid ((hb1))
  have Ns_1 := Lib.hid hN1
  clear hb1 hN1
  go_wp2_with fail
  refine (HSp.out _ _ _ hl2 (Ns_1.out.row.mono (by omega) (by omega))).mono ?_
  rintro e w2 ⟨aw, cw, rfl, hb2, hN2⟩
  clear Ns_1
  have hz2 := hb2.size
  have R_2 := Lib.hid (R_1.out.below hb2 (by omega))
  have B2 := Lib.hid (B1.out.trans (hb2.mono (by omega)))
  have K_2 := Lib.hid hN2.rowB
  clear hb2 hN2 HSp
  go_wp2_with fail
  have HRb := Lib.hid (R_2.out.below (below1 w2 (.cells #[.int .i64 L', .int .i64 V', .slice aw ts'.length cw] 25)) (by omega))
  refine (toInt64S_new 0 w.heap.size a cap ps hl2 _ HRb.out (by simp; omega)).mono ?_
  rintro e w3 ⟨xx, rfl, hb3', hN3⟩
  have hb3 : Below w2.heap.size w2 w3 := (below1 w2 (.cells #[.int .i64 L', .int .i64 V', .slice aw ts'.length cw] 25)).trans (hb3'.mono (by simp))
  have hzs3 : w2.heap.size < w3.heap.size := by have := hb3'.size; simp at this; omega
  have C_3 := Lib.hid (((Cs.nil w2).box3 (.int .i64 L') (.int .i64 V') (.slice aw ts'.length cw) 25).below hb3' (Nat.le_refl _))
  have hz3 := hb3.size
  have R_3 := Lib.hid (R_2.out.below hb3 (by omega))
  have K_3 := Lib.hid (K_2.out.below hb3 (by omega))
  have B3 := Lib.hid (B2.out.trans (hb3.mono (by omega)))
  have Nx_3 := Lib.hid (hN3.mono (lo' := w2.heap.size + 1) (by simp) (Nat.le_refl _))
  clear hb3 hb3' hN3 HRb
  go_wp2_with fail
  refine (HIm.out _ _ _ hl2 (Nx_3.out.row.mono (by omega) (by omega))).mono ?_
  rintro e w4 ⟨ag, cg, rfl, hb4, hN4⟩
  have hz4 := hb4.size
  have R_4 := Lib.hid (R_3.out.below hb4 (by omega))
  have K_4 := Lib.hid (K_3.out.below hb4 (by omega))
  have C_4 := Lib.hid (C_3.out.below hb4 (by omega))
  have Nx_4 := Lib.hid (Nx_3.out.below hb4 (by omega))
  have B4 := Lib.hid (B3.out.trans (hb4.mono (by omega)))
  have G_4 := Lib.hid hN4
  clear hb4 hN4
  have W0 := C_4.out.get 0 rfl
  have W1 := C_4.out.get 1 rfl
  have W2 := C_4.out.get 2 rfl
  have hzW4 : w2.heap.size < w4.heap.size := by omega
  go_wp2_with fail
  have HGb := Lib.hid (G_4.out.below (below1 w4 (.cells #[.int .i64 L', .int .i64 V', .slice ag ts'.length cg] 25)) (by omega))
  have HKb := Lib.hid (K_4.out.below (below1 w4 (.cells #[.int .i64 L', .int .i64 V', .slice ag ts'.length cg] 25)) (by omega))
  refine (eqSeries_row L' V' ag aw cg cw ts' hl' _ HGb.out.row (HKb.out.row (by simp; omega))).mono ?_
  clear W0 W1 W2 HGb HKb
  rintro e w5 ⟨rfl, hb5'⟩
  have hb5 : Below w4.heap.size w4 w5 := (below1 w4 (.cells #[.int .i64 L', .int .i64 V', .slice ag ts'.length cg] 25)).trans (hb5'.mono (by simp))
  have hzs5 : w4.heap.size < w5.heap.size := by have := hb5'.size; simp at this; omega
  have Cb_5 := Lib.hid ((C_4.out.box3 (.int .i64 L') (.int .i64 V') (.slice ag ts'.length cg) 25).below hb5' (Nat.le_refl _))
  have hz5 := hb5.size
  have R_5 := Lib.hid (R_4.out.below hb5 (by omega))
  have K_5 := Lib.hid (K_4.out.below hb5 (by omega))
  have Nx_5 := Lib.hid (Nx_4.out.below hb5 (by omega))
  have G_5 := Lib.hid (G_4.out.below hb5 (by omega))
  have B5 := Lib.hid (B4.out.trans (hb5.mono (by omega)))
  clear hb5 hb5'
  go_wp2_with fail
  refine (toInt64S_new 0 w.heap.size a cap ps hl2 _ R_5.out (by omega)).mono ?_
  rintro e w6 ⟨xy, rfl, hb6, hN6⟩
  have hz6 := hb6.size
  have R_6 := Lib.hid (R_5.out.below hb6 (by omega))
  have K_6 := Lib.hid (K_5.out.below hb6 (by omega))
  have C_6 := Lib.hid (Cb_5.out.below hb6 (by omega))
  have Nx_6 := Lib.hid (Nx_5.out.below hb6 (by omega))
  have G_6 := Lib.hid (G_5.out.below hb6 (by omega))
  have B6 := Lib.hid (B5.out.trans (hb6.mono (by omega)))
  have Ny_6 := Lib.hid hN6
  clear hb6 hN6
  go_wp2_with fail
  refine (eqInt64S_row _ _ _ _ xx xy _ _ ps hl2 _ Nx_6.out.row Ny_6.out.row (by omega) (by omega)).mono ?_
  rintro e w7 ⟨rfl, hb7⟩
  clear Ny_6
  have hz7 := hb7.size
  have R_7 := Lib.hid (R_6.out.below hb7 (by omega))
  have K_7 := Lib.hid (K_6.out.below hb7 (by omega))
  have C_7 := Lib.hid (C_6.out.below hb7 (by omega))
  have Nx_7 := Lib.hid (Nx_6.out.below hb7 (by omega))
  have G_7 := Lib.hid (G_6.out.below hb7 (by omega))
  have B7 := Lib.hid (B6.out.trans (hb7.mono (by omega)))
  clear hb7
  go_wp2_with fail
  refine (markInt64S_row (w2.heap.size + 1) (w3.heap.size) xx _ ps 1 (by omega) (by omega) _ Nx_7.out).mono ?_
  rintro e w8 ⟨rr, rfl, hG, hrr, hN8⟩
  have hO8 := Outside.of_grown hG (fun g h => ⟨(hrr g h).1, (hrr g h).2.1⟩)
  clear Nx_7
  have hz8 := hO8.size
  have R_8 := Lib.hid (R_7.out.outside hO8 (by omega) (by omega))
  have K_8 := Lib.hid (K_7.out.outside hO8 (by omega) (by omega))
  have C_8 := Lib.hid (C_7.out.outside hO8 (by intro p hp; simp only [List.mem_cons, List.not_mem_nil, or_false] at hp; rcases hp with rfl | rfl | rfl | rfl | rfl | rfl <;> simp only <;> omega))
  have G_8 := Lib.hid (G_7.out.outside hO8 (by omega))
  have B8 := Lib.hid (B7.out.trans (hO8.below (B := w.heap.size) (by omega) (by omega)))
  clear hO8 hN8 hG hrr
  have hkk : (0 : Int) ≤ 1 + (ps.length : Int) := by omega
  have W0 := C_8.out.get 3 rfl
  have W1 := C_8.out.get 4 rfl
  have W2 := C_8.out.get 5 rfl
  have G0 := C_8.out.get 0 rfl
  have G1 := C_8.out.get 1 rfl
  have G2 := C_8.out.get 2 rfl
  go_wp2_with fail
  refine (eqSeries_row L' V' ag aw cg cw ts' hl' _ G_8.out.row (K_8.out.row (by omega))).mono ?_
  clear W0 W1 W2 G0 G1 G2
  rintro e w9 ⟨rfl, hb9⟩
  have hz9 := hb9.size
  have R_9 := Lib.hid (R_8.out.below hb9 (by omega))
  have K_9 := Lib.hid (K_8.out.below hb9 (by omega))
  have C_9 := Lib.hid (C_8.out.below hb9 (by omega))
  have G_9 := Lib.hid (G_8.out.below hb9 (by omega))
  have B9 := Lib.hid (B8.out.trans (hb9.mono (by omega)))
  clear hb9
  have G0 := C_9.out.get 0 rfl
  have G1 := C_9.out.get 1 rfl
  have G2 := C_9.out.get 2 rfl
  go_wp2_with fail
  refine (markSeries_row L' V' (w3.heap.size) (w4.heap.size) ag _ ts' 1 (by omega) (by omega) _ G_9.out).mono ?_
  clear G0 G1 G2
  rintro e w10 ⟨rm, rfl, hG, hrm, hN10⟩
  have hO10 := Outside.of_grown hG hrm
  clear G_9
  have hz10 := hO10.size
  have R_10 := Lib.hid (R_9.out.outside hO10 (by omega) (by omega))
  have K_10 := Lib.hid (K_9.out.outside hO10 (by omega) (by omega))
  have C_10 := Lib.hid (C_9.out.outside hO10 (by intro p hp; simp only [List.mem_cons, List.not_mem_nil, or_false] at hp; rcases hp with rfl | rfl | rfl | rfl | rfl | rfl <;> simp only <;> omega))
  have B10 := Lib.hid (B9.out.trans (hO10.below (B := w.heap.size) (by omega) (by omega)))
  have M_10 := Lib.hid hN10
  clear hO10 hN10 hG hrm
  have hmm : (0 : Int) ≤ 1 + 3 * (ts'.length : Int) := by omega
  have G0 := C_10.out.get 0 rfl
  have G1 := C_10.out.get 1 rfl
  have G2 := C_10.out.get 2 rfl
  go_wp2_with fail
  refine (heldSeries_row L' V' (w3.heap.size) (w4.heap.size) ag _ ts' 1 (by omega) (by omega) _ M_10.out).mono ?_
  clear G0 G1 G2
  rintro e w11 ⟨rfl, hb11⟩
  have hz11 := hb11.size
  have R_11 := Lib.hid (R_10.out.below hb11 (by omega))
  have K_11 := Lib.hid (K_10.out.below hb11 (by omega))
  have C_11 := Lib.hid (C_10.out.below hb11 (by omega))
  have M_11 := Lib.hid (M_10.out.below hb11 (by omega))
  have B11 := Lib.hid (B10.out.trans (hb11.mono (by omega)))
  clear hb11
  go_wp2_with fail
  refine (toInt64S_new 0 w.heap.size a cap ps hl2 _ R_11.out (by omega)).mono ?_
  rintro e w12 ⟨xz, rfl, hb12, hN12⟩
  have hz12 := hb12.size
  have R_12 := Lib.hid (R_11.out.below hb12 (by omega))
  have K_12 := Lib.hid (K_11.out.below hb12 (by omega))
  have C_12 := Lib.hid (C_11.out.below hb12 (by omega))
  have M_12 := Lib.hid (M_11.out.below hb12 (by omega))
  have B12 := Lib.hid (B11.out.trans (hb12.mono (by omega)))
  have Nz_12 := Lib.hid hN12
  clear hb12 hN12
  go_wp2_with fail
  refine (HIm.out _ _ _ hl2 (Nz_12.out.row.mono (by omega) (by omega))).mono ?_
  rintro e w13 ⟨ah, ch, rfl, hb13, hN13⟩
  clear Nz_12
  have hz13 := hb13.size
  have R_13 := Lib.hid (R_12.out.below hb13 (by omega))
  have K_13 := Lib.hid (K_12.out.below hb13 (by omega))
  have C_13 := Lib.hid (C_12.out.below hb13 (by omega))
  have M_13 := Lib.hid (M_12.out.below hb13 (by omega))
  have B13 := Lib.hid (B12.out.trans (hb13.mono (by omega)))
  have H_13 := Lib.hid hN13
  clear hb13 hN13 HIm
  have W0 := C_13.out.get 3 rfl
  have W1 := C_13.out.get 4 rfl
  have W2 := C_13.out.get 5 rfl
  have hzW13 : w2.heap.size < w13.heap.size := by omega
  go_wp2_with fail
  have HGb := Lib.hid (H_13.out.below (below1 w13 (.cells #[.int .i64 L', .int .i64 V', .slice ah ts'.length ch] 25)) (by omega))
  have HKb := Lib.hid (K_13.out.below (below1 w13 (.cells #[.int .i64 L', .int .i64 V', .slice ah ts'.length ch] 25)) (by omega))
  refine (eqSeries_row L' V' ah aw ch cw ts' hl' _ HGb.out.row (HKb.out.row (by simp; omega))).mono ?_
  clear W0 W1 W2 HGb HKb
  rintro e w14 ⟨rfl, hb14'⟩
  have hb14 : Below w13.heap.size w13 w14 := (below1 w13 (.cells #[.int .i64 L', .int .i64 V', .slice ah ts'.length ch] 25)).trans (hb14'.mono (by simp))
  clear H_13
  have hz14 := hb14.size
  have R_14 := Lib.hid (R_13.out.below hb14 (by omega))
  have K_14 := Lib.hid (K_13.out.below hb14 (by omega))
  have C_14 := Lib.hid (C_13.out.below hb14 (by omega))
  have M_14 := Lib.hid (M_13.out.below hb14 (by omega))
  have B14 := Lib.hid (B13.out.trans (hb14.mono (by omega)))
  clear hb14 hb14'
  have G0 := C_14.out.get 0 rfl
  have G1 := C_14.out.get 1 rfl
  have G2 := C_14.out.get 2 rfl
  go_wp2_with fail
  refine (heldSeries_row L' V' (w3.heap.size) (w4.heap.size) ag _ ts' 1 (by omega) (by omega) _ M_14.out).mono ?_
  clear G0 G1 G2
  rintro e w15 ⟨rfl, hb15⟩
  have hz15 := hb15.size
  have R_15 := Lib.hid (R_14.out.below hb15 (by omega))
  have K_15 := Lib.hid (K_14.out.below hb15 (by omega))
  have C_15 := Lib.hid (C_14.out.below hb15 (by omega))
  have M_15 := Lib.hid (M_14.out.below hb15 (by omega))
  have B15 := Lib.hid (B14.out.trans (hb15.mono (by omega)))
  clear hb15
  go_wp2
  go_ret
  exact ⟨rfl, B15.out⟩
end Go.Proofs.YtddfijlgehpjfaaGreatDoor

namespace Go.Proofs.YtddfijlgehpjfaaGreatDoor
open Go.ChangeShapes Go.WideShapes Go.ChangeAt Go.RowKit

theorem main_LeadingPart (n0 n1 : Int) (a2 : Option Addr) (cap2 : Nat) (ps2 : List Int) (hl2 : ps2.length ≤ maxLen) (w : World) (hr2 : IRow 0 w.heap.size w a2 ps2) :
    Calls Tryz.prog 3 #[.int .i64 n0, .int .i64 n1, .slice a2 ps2.length cap2] w fun e w' => e = .returned (.bool true) ∧ Below w.heap.size w w' := by
  have law := law_LeadingPart n0 n1 a2 cap2 ps2 hl2 w hr2
  cases h1 : shapeB n0 n1 with
  | false => exact law 0 0 2 [] (by simp) (fun W b k q r => sLp_1 n0 n1 _ _ b k ps2 q (by simp [codeG, h1]) W r (Nat.le_refl _)) (fun W b k q r => iLp_1 n0 n1 _ _ b k ps2 q (.inl h1) W r (Nat.le_refl _))
  | true =>
    cases h2 : grpB n0 ps2 with
    | false => exact law 0 0 2 [] (by simp) (fun W b k q r => sLp_1 n0 n1 _ _ b k ps2 q (by simp [codeG, h2]) W r (Nat.le_refl _)) (fun W b k q r => iLp_1 n0 n1 _ _ b k ps2 q (.inr ⟨h1, h2⟩) W r (Nat.le_refl _))
    | true =>
      have hLV := shape_out h1
      obtain ⟨D, rfl⟩ : ∃ D : Nat, n0 = D := ⟨n0.toNat, by omega⟩
      obtain ⟨N, rfl⟩ : ∃ N : Nat, n1 = N := ⟨n1.toNat, by omega⟩
      have hD : 1 ≤ D ∧ D ≤ 3 := by omega
      have hN : 1 ≤ N ∧ N ≤ 5 := by omega
      have hG := grpB_true h2
      obtain ⟨h, hq, hrep⟩ := sig_rep hD hN hG.len (fun x hx => ⟨six_of hG x hx, by have := hG.lo x hx; have := hG.hi x hx; omega⟩) ps2.length (Nat.le_refl _)
      have hR := sig_row hD.2 hN.2 hrep
      have hf := hR.len
      have hp := lpL_len (termsOf h (allW D N))
      exact law D N 0 (lpL (termsOf h (allW D N))) (by omega) (fun W b k q r => sLp_2 D N h1 _ _ b k ps2 q h2 h hrep W r (Nat.le_refl _)) (fun W b k q r => iLp_2 D N h1 _ _ b k ps2 q h2 h hq hR W r (Nat.le_refl _))

namespace fnExactLeadingPart
set_option maxRecDepth 100000 in
theorem lifted (os : Os) (started : os.Started) (H : Type) (enc : TypeId × Value → H) :
    ReturnsInHanded {} Tryz.checked os 3 .any (fun w args => (Rows.fnExactLeadingPartSpec.pre enc Tryz.prog Tryz.f3 [] false w args ∧ laidMetH Tryz.prog Rows.fnExactLeadingPartRow.laid w) ∧ sizedMet enc Tryz.prog Tryz.f3 (OpenSpec.ofChange Rows.fnExactLeadingPartSpec) false w args)
      (Rows.fnExactLeadingPartSpec.post enc Tryz.prog Tryz.f3 false true false false) := by
  refine returnsInHanded_of_change_and (C := Tryz.checked) (X := fun w _ => laidMetH Tryz.prog Rows.fnExactLeadingPartRow.laid w) (fun _ _ _ hh h => h.of_heap hh) seatOwn started (by kernel_rfl) Tryz.func3
    (ChangeSpec.witness_shaped (enc := enc) (C := Tryz.checked) (os := os) (X := fun w _ => laidMetH Tryz.prog Rows.fnExactLeadingPartRow.laid w) false (World.doorLaid Tryz.prog 400 os) #[.int .i64 0, .int .i64 0, .slice none 0 0] 8 rfl (door_shaped os _) (by kernel_rfl) (by kernel_rfl) (by kernel_rfl) (door_met3 os _)) ?_
  intro W base args ds gs before hval0 hW _ _ _ _
  have hval : ∀ (j : Nat) t v, Tryz.f3.params[j]? = some t → args[j]? = some v → Value.okWide Tryz.prog W .any base t v := hval0
  have hW' := hW
  have hlt : ∀ x ∈ before, x.block < W.heap.size := fun x hx => hW.lt x hx
  obtain ⟨p, q, hA0, hV, rfl, _, _⟩ := hW
  have hA : DataW.TrodAll enc Tryz.prog W 0 (fun _ => true) true Tryz.f3.params.toList args.toList ds p := hA0
  rw [Tryz.params3] at hA hval
  obtain ⟨v0, vs0, d00, ds0, p0, q0, hargs, rfl, rfl, h0, r0⟩ := trodAll_cons hA
  obtain ⟨v1, vs1, d10, ds1, p1, q1, rfl, rfl, rfl, h1, r1⟩ := trodAll_cons r0
  obtain ⟨v2, vs2, d20, ds2, p2, q2, rfl, rfl, rfl, h2, r2⟩ := trodAll_cons r1
  obtain ⟨rfl, rfl, rfl⟩ := trodAll_nil r2
  obtain rfl : args = #[v0, v1, v2] := by cases args; simp_all
  obtain ⟨rfl, rfl⟩ := trodVars_none hV
  obtain ⟨n0, rfl, rfl, rfl, wf0⟩ := open_int Tryz.underlying2 (hval 0 2 v0 rfl rfl) h0
  obtain ⟨n1, rfl, rfl, rfl, wf1⟩ := open_int Tryz.underlying2 (hval 1 2 v1 rfl rfl) h1
  have h2k := h2
  obtain ⟨a2, cap2, ps2, rfl, hl2, hr2⟩ := open_row (hval 2 22 v2 rfl rfl) h2
  clear hA0 hval0
  simp only [List.append_nil, List.nil_append] at hW' hlt
  refine (main_LeadingPart n0 n1 a2 cap2 ps2 hl2 W hr2).mono fun e W' ⟨he, hg⟩ => ?_
  subst he
  have hk2 := Below.trod seatLaid (by kernel_rfl) (of_decide_eq_true (by kernel_rfl)) h2k hg (fun x hx => hlt x (by simp [hx]))
  exact ⟨_, rfl, shut_reads (pa := p2) hW' (fun _ _ _ => (trodAll_cons_mk (shut_bool Tryz.underlying4 _) trodAll_mk0)) (by have h := (trodAll_cons_mk (shut_int Tryz.underlying2 wf0) (trodAll_cons_mk (shut_int Tryz.underlying2 wf1) (trodAll_cons_mk hk2 trodAll_mk0))); simp only [List.append_nil, List.nil_append] at h; exact h) (fun _ => rfl) hg⟩
end fnExactLeadingPart
end Go.Proofs.YtddfijlgehpjfaaGreatDoor
