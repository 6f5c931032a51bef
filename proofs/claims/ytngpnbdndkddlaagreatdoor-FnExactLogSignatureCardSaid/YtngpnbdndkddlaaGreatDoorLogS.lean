/-
  Contracts of LogSignature, of the program and of its model, out of those of SignatureOf: both return the same series and code.
-/
import Derived.Test.YtngpnbdndkddlaaGreatDoorSerT
import Derived.Test.YtngpnbdndkddlaaGreatDoorSigS
import Derived.Test.YtngpnbdndkddlaaGreatDoorSigI
import Derived.Test.YtngpnbdndkddlaaGreatDoorLogSer
namespace Go.Proofs.YtngpnbdndkddlaaGreatDoor
open Go.RowKit

set_option maxRecDepth 100000 in
set_option maxHeartbeats 4000000 in
theorem sLogS_err (L V : Int) (a : Option Addr) (cap n : Nat) (c : Int) (hn : c ≠ 0) (w : World) (hSg : ∀ W, Below w.heap.size w W → Calls Tryz.prog 6 #[.int .i64 L, .int .i64 V, .slice a n cap] W (SerPost 0 0 [] c W)) :
    Calls Tryz.prog 14 #[.int .i64 L, .int .i64 V, .slice a n cap] w (SerPost 0 0 [] c w) := by
  have HS := Lib.hid hSg
  have hnb : (c != 0) = true := by simpa using hn
  clear hSg hn
  go_enter Tryz.func14, Tryz.ntmps14
  go_wp2_with fail
  refine (HS.out _ (below1 w _)).mono ?_
  rintro e w1 ⟨a1, c1, rfl, hb, hN⟩
  have hT := (T3.new w 0 0 none 0 0 26).next hb
  have HW1 := Lib.hid ((below1 w (.cells #[.int .i64 0, .int .i64 0, .slice none 0 0] 26)).trans (hb.mono (by simp)))
  obtain ⟨hz1, r0, r1, r2, z0, z1, z2⟩ := id hT
  clear hb hT hN
  go_wp2
  refine bodyPost_ret (v := .tuple #[.agg #[.int .i64 0, .int .i64 0, .slice none 0 0], .int .i64 c]) (by simp [results, Tryz.results14, go_sem, r0, r1, r2, hz1]) rfl (SerPost.err c rfl ?_)
  have hW := HW1.out
  go_grown
set_option maxRecDepth 100000 in
set_option maxHeartbeats 4000000 in
theorem iLogS_err (L V : Int) (a : Option Addr) (cap n : Nat) (c : Int) (hn : c ≠ 0) (w : World) (hSg : ∀ W, Below w.heap.size w W → Calls Tryz.prog 8 #[.int .i64 L, .int .i64 V, .slice a n cap] W (SerPost 0 0 [] c W)) :
    Calls Tryz.prog 15 #[.int .i64 L, .int .i64 V, .slice a n cap] w (SerPost 0 0 [] c w) := by
  have HS := Lib.hid hSg
  have hnb : (c != 0) = true := by simpa using hn
  clear hSg hn
  go_enter Tryz.func15, Tryz.ntmps15
  go_wp2_with fail
  refine (HS.out _ (below1 w _)).mono ?_
  rintro e w1 ⟨a1, c1, rfl, hb, hN⟩
  have hT := (T3.new w 0 0 none 0 0 26).next hb
  have HW1 := Lib.hid ((below1 w (.cells #[.int .i64 0, .int .i64 0, .slice none 0 0] 26)).trans (hb.mono (by simp)))
  obtain ⟨hz1, r0, r1, r2, z0, z1, z2⟩ := id hT
  clear hb hT hN
  go_wp2
  refine bodyPost_ret (v := .tuple #[.agg #[.int .i64 0, .int .i64 0, .slice none 0 0], .int .i64 c]) (by simp [results, Tryz.results15, go_sem, r0, r1, r2, hz1]) rfl (SerPost.err c rfl ?_)
  have hW := HW1.out
  go_grown
set_option maxRecDepth 100000 in
set_option maxHeartbeats 4000000 in
theorem sLogS_no (D N : Nat) (hs : shapeB (D : Int) (N : Int) = true) (a : Option Addr) (cap n : Nat) (g : VF) (hg : GoodV (allW D N) g) (hg1 : valL [] (termsOf g (allW D N)) = (1, 1)) (hv : logV g (allW D N) N = none) (w : World) (hSg : ∀ W, Below w.heap.size w W → Calls Tryz.prog 6 #[.int .i64 D, .int .i64 N, .slice a n cap] W (SerPost D N (termsOf g (allW D N)) 0 W)) :
    Calls Tryz.prog 14 #[.int .i64 D, .int .i64 N, .slice a n cap] w (SerPost 0 0 [] 3 w) := by
  have HS := Lib.hid hSg
  have hDN := shape_out hs
  have hfew := allW_few (D := D) (by omega) (n := N) (by omega)
  have hlt := termsOf_len g (allW D N)
  have HL := Lib.hid (show (termsOf g (allW D N)).length ≤ 1048576 by omega)
  have HM := Lib.hid (fun a1 c1 W r => l02Log_c D N (by omega) (by omega) a1 c1 g hg (termsOf g (allW D N)) rfl W r)
  rw [hv] at HM
  have HNe := Lib.hid (show termsOf g (allW D N) ≠ [] from fun e => by rw [e] at hg1; cases hg1)
  clear hSg hs hg hg1 hv hfew hlt
  generalize termsOf g (allW D N) = xs at *
  go_enter Tryz.func14, Tryz.ntmps14
  go_wp2_with fail
  refine (HS.out _ (below1 w _)).mono ?_
  rintro e w1 ⟨a1, c1, rfl, hb, hN⟩
  have hT := (T3.new w 0 0 none 0 0 26).next hb
  have HW1 := Lib.hid ((below1 w (.cells #[.int .i64 0, .int .i64 0, .slice none 0 0] 26)).trans (hb.mono (by simp)))
  have HT := Lib.hid hT
  have hz1 := hT.1
  have HNr := Lib.hid hN.row
  have HMc := Lib.hid (HM.out a1 c1 (w1.alloc (.cells #[.int .i64 D, .int .i64 N, .slice a1 xs.length c1] 26)) (HNr.out.below (below1 w1 _)))
  clear hb hT hN
  go_wp2_with fail
  refine HMc.out.mono ?_
  rintro e w2 ⟨rfl, hb2⟩
  have hT2 := (HT.out.alloc (.cells #[.int .i64 D, .int .i64 N, .slice a1 xs.length c1] 26)).next hb2
  have HW2 := Lib.hid ((HW1.out.alloc HW1.out.size (.cells #[.int .i64 D, .int .i64 N, .slice a1 xs.length c1] 26)).trans (hb2.mono (by have := HW1.out.size; simp; omega)))
  obtain ⟨hzr, r0, r1, r2, z0, z1, z2⟩ := id hT2
  have hz2 : w1.heap.size < w2.heap.size := by have := hb2.size; simp at this; omega
  clear hb2 hT2
  go_wp2
  refine bodyPost_ret (v := .tuple #[.agg #[.int .i64 0, .int .i64 0, .slice none 0 0], .int .i64 3]) (by simp [results, Tryz.results14, go_sem, r0, r1, r2, hzr]) rfl (SerPost.err 3 rfl ?_)
  have hW := HW2.out
  go_grown
set_option maxRecDepth 100000 in
set_option maxHeartbeats 4000000 in
theorem sLogS_yes (D N : Nat) (hs : shapeB (D : Int) (N : Int) = true) (a : Option Addr) (cap n : Nat) (g : VF) (hg : GoodV (allW D N) g) (hg1 : valL [] (termsOf g (allW D N)) = (1, 1)) (h : VF) (hv : logV g (allW D N) N = some h) (w : World) (hSg : ∀ W, Below w.heap.size w W → Calls Tryz.prog 6 #[.int .i64 D, .int .i64 N, .slice a n cap] W (SerPost D N (termsOf g (allW D N)) 0 W)) :
    Calls Tryz.prog 14 #[.int .i64 D, .int .i64 N, .slice a n cap] w (SerPost D N (termsOf h (allW D N)) 0 w) := by
  have HS := Lib.hid hSg
  have hDN := shape_out hs
  have hfew := allW_few (D := D) (by omega) (n := N) (by omega)
  have hlt := termsOf_len g (allW D N)
  have HL := Lib.hid (show (termsOf g (allW D N)).length ≤ 1048576 by omega)
  have HM := Lib.hid (fun a1 c1 W r => l02Log_c D N (by omega) (by omega) a1 c1 g hg (termsOf g (allW D N)) rfl W r)
  rw [hv] at HM
  have HNe := Lib.hid (show termsOf g (allW D N) ≠ [] from fun e => by rw [e] at hg1; cases hg1)
  clear hSg hs hg hg1 hv hfew hlt
  generalize termsOf g (allW D N) = xs at *
  go_enter Tryz.func14, Tryz.ntmps14
  go_wp2_with fail
  refine (HS.out _ (below1 w _)).mono ?_
  rintro e w1 ⟨a1, c1, rfl, hb, hN⟩
  have hT := (T3.new w 0 0 none 0 0 26).next hb
  have HW1 := Lib.hid ((below1 w (.cells #[.int .i64 0, .int .i64 0, .slice none 0 0] 26)).trans (hb.mono (by simp)))
  have HT := Lib.hid hT
  have hz1 := hT.1
  have HNr := Lib.hid hN.row
  have HMc := Lib.hid (HM.out a1 c1 (w1.alloc (.cells #[.int .i64 D, .int .i64 N, .slice a1 xs.length c1] 26)) (HNr.out.below (below1 w1 _)))
  clear hb hT hN
  go_wp2_with fail
  refine HMc.out.mono ?_
  rintro e w2 ⟨a4, c4, rfl, hb2, hN4⟩
  have hT2 := (HT.out.alloc (.cells #[.int .i64 D, .int .i64 N, .slice a1 xs.length c1] 26)).next hb2
  have HW2 := Lib.hid ((HW1.out.alloc HW1.out.size (.cells #[.int .i64 D, .int .i64 N, .slice a1 xs.length c1] 26)).trans (hb2.mono (by have := HW1.out.size; simp; omega)))
  obtain ⟨hzr, r0, r1, r2, z0, z1, z2⟩ := id hT2
  have hz2 : w1.heap.size < w2.heap.size := by have := hb2.size; simp at this; omega
  have HN4 := Lib.hid (hN4.mono (lo' := w.heap.size + 1) (hi' := w2.heap.size) (by simp; omega) (Nat.le_refl _))
  clear hb2 hT2 hN4
  go_wp2
  refine bodyPost_ret (v := .tuple #[.agg #[.int .i64 D, .int .i64 N, .slice a4 (termsOf h (allW D N)).length c4], .int .i64 0]) (by simp [results, Tryz.results14, go_sem, r0, r1, r2, hzr]) rfl ⟨a4, c4, rfl, ?_, ?_⟩
  · have hW := HW2.out
    go_grown
  · first
      | exact (((HN4.out.far1s (by omega)).far1s (by omega)).far1s (by omega)).mono (by omega) (by simp)
      | exact ((((HN4.out.below (below1 _ _) (by simp)).far1s (by omega)).far1s (by omega)).far1s (by omega)).mono (by omega) (by simp)
      | exact ((((HN4.out.far1s (by omega)).far1s (by omega)).far1s (by omega)).below (below1 _ _) (by simp)).mono (by omega) (by simp)
set_option maxRecDepth 100000 in
set_option maxHeartbeats 4000000 in
theorem iLogS_no (D N : Nat) (hs : shapeB (D : Int) (N : Int) = true) (a : Option Addr) (cap n : Nat) (g : VF) (hg : GoodV (allW D N) g) (hg1 : valL [] (termsOf g (allW D N)) = (1, 1)) (hv : logV g (allW D N) N = none) (w : World) (hSg : ∀ W, Below w.heap.size w W → Calls Tryz.prog 8 #[.int .i64 D, .int .i64 N, .slice a n cap] W (SerPost D N (termsOf g (allW D N)) 0 W)) :
    Calls Tryz.prog 15 #[.int .i64 D, .int .i64 N, .slice a n cap] w (SerPost 0 0 [] 3 w) := by
  have HS := Lib.hid hSg
  have hDN := shape_out hs
  have hfew := allW_few (D := D) (by omega) (n := N) (by omega)
  have hlt := termsOf_len g (allW D N)
  have HL := Lib.hid (show (termsOf g (allW D N)).length ≤ 1048576 by omega)
  have hser := ser_terms hs hg
  have hvv := valV_terms hs hg
  have hsz : ∀ i (h : i < (termsOf g (allW D N)).length), ((termsOf g (allW D N))[i]).s.size ≤ maxLen := fun i h => by
    have h1 := allW_size D N _ (termsOf_iff.1 (List.getElem_mem h)).1
    unfold maxLen
    omega
  have HM := Lib.hid (fun g1 (c1 : Nat) W hb ht => iLog_3no (cap := c1) D N 1 1 g1 (termsOf g (allW D N)) HL.out hsz hser hg1 ⟨rfl, rfl⟩ (by rw [hvv]; exact hv) W hb ht)
  have HNe := Lib.hid (show termsOf g (allW D N) ≠ [] from fun e => by rw [e] at hg1; cases hg1)
  clear hSg hs hg hg1 hv hfew hlt hser hvv hsz
  generalize termsOf g (allW D N) = xs at *
  go_enter Tryz.func15, Tryz.ntmps15
  go_wp2_with fail
  refine (HS.out _ (below1 w _)).mono ?_
  rintro e w1 ⟨a1, c1, rfl, hb, hN⟩
  have hT := (T3.new w 0 0 none 0 0 26).next hb
  have HW1 := Lib.hid ((below1 w (.cells #[.int .i64 0, .int .i64 0, .slice none 0 0] 26)).trans (hb.mono (by simp)))
  have HT := Lib.hid hT
  have hz1 := hT.1
  have HNr := Lib.hid hN.row
  obtain ⟨g1, rfl, hg1, hM1, hTi⟩ : ∃ g1, a1 = some ⟨g1, 0, none⟩ ∧ g1 < w1.heap.size ∧ True ∧ TermsIn w1 g1 0 xs := by
    rcases hN with h | ⟨g1, e1, _, h2, _, h4⟩
    · exact absurd h HNe.out
    · exact ⟨g1, e1, h2, trivial, h4⟩
  have HMc := Lib.hid (HM.out g1 c1 (w1.alloc (.cells #[.int .i64 D, .int .i64 N, .slice (some ⟨g1, 0, none⟩) xs.length c1] 26)) (by simp; omega) (hTi.below (below1 w1 _) hg1))
  clear hb hT hN hTi
  go_wp2_with fail
  refine HMc.out.mono ?_
  rintro e w2 ⟨a4, c4, rfl, hb2, hN4⟩
  have hT2 := (HT.out.alloc (.cells #[.int .i64 D, .int .i64 N, .slice (some ⟨g1, 0, none⟩) xs.length c1] 26)).next hb2
  have HW2 := Lib.hid ((HW1.out.alloc HW1.out.size (.cells #[.int .i64 D, .int .i64 N, .slice (some ⟨g1, 0, none⟩) xs.length c1] 26)).trans (hb2.mono (by have := HW1.out.size; simp; omega)))
  obtain ⟨hzr, r0, r1, r2, z0, z1, z2⟩ := id hT2
  have hz2 : w1.heap.size < w2.heap.size := by have := hb2.size; simp at this; omega
  clear hb2 hT2 hN4
  go_wp2
  refine bodyPost_ret (v := .tuple #[.agg #[.int .i64 0, .int .i64 0, .slice a4 0 c4], .int .i64 3]) (by simp [results, Tryz.results15, go_sem, r0, r1, r2]) rfl ⟨a4, c4, rfl, ?_, .inl rfl⟩
  have hW := HW2.out
  go_grown
set_option maxRecDepth 100000 in
set_option maxHeartbeats 4000000 in
theorem iLogS_yes (D N : Nat) (hs : shapeB (D : Int) (N : Int) = true) (a : Option Addr) (cap n : Nat) (g : VF) (hg : GoodV (allW D N) g) (hg1 : valL [] (termsOf g (allW D N)) = (1, 1)) (h : VF) (hv : logV g (allW D N) N = some h) (w : World) (hSg : ∀ W, Below w.heap.size w W → Calls Tryz.prog 8 #[.int .i64 D, .int .i64 N, .slice a n cap] W (SerPost D N (termsOf g (allW D N)) 0 W)) :
    Calls Tryz.prog 15 #[.int .i64 D, .int .i64 N, .slice a n cap] w (SerPost D N (termsOf h (allW D N)) 0 w) := by
  have HS := Lib.hid hSg
  have hDN := shape_out hs
  have hfew := allW_few (D := D) (by omega) (n := N) (by omega)
  have hlt := termsOf_len g (allW D N)
  have HL := Lib.hid (show (termsOf g (allW D N)).length ≤ 1048576 by omega)
  have hser := ser_terms hs hg
  have hvv := valV_terms hs hg
  have hsz : ∀ i (h : i < (termsOf g (allW D N)).length), ((termsOf g (allW D N))[i]).s.size ≤ maxLen := fun i h => by
    have h1 := allW_size D N _ (termsOf_iff.1 (List.getElem_mem h)).1
    unfold maxLen
    omega
  have HM := Lib.hid (fun g1 (c1 : Nat) W hb ht => iLog_3yes (cap := c1) D N 1 1 g1 (termsOf g (allW D N)) HL.out hsz hser hg1 ⟨rfl, rfl⟩ h (by rw [hvv]; exact hv) W hb ht)
  have HNe := Lib.hid (show termsOf g (allW D N) ≠ [] from fun e => by rw [e] at hg1; cases hg1)
  clear hSg hs hg hg1 hv hfew hlt hser hvv hsz
  generalize termsOf g (allW D N) = xs at *
  go_enter Tryz.func15, Tryz.ntmps15
  go_wp2_with fail
  refine (HS.out _ (below1 w _)).mono ?_
  rintro e w1 ⟨a1, c1, rfl, hb, hN⟩
  have hT := (T3.new w 0 0 none 0 0 26).next hb
  have HW1 := Lib.hid ((below1 w (.cells #[.int .i64 0, .int .i64 0, .slice none 0 0] 26)).trans (hb.mono (by simp)))
  have HT := Lib.hid hT
  have hz1 := hT.1
  have HNr := Lib.hid hN.row
  obtain ⟨g1, rfl, hg1, hM1, hTi⟩ : ∃ g1, a1 = some ⟨g1, 0, none⟩ ∧ g1 < w1.heap.size ∧ True ∧ TermsIn w1 g1 0 xs := by
    rcases hN with h | ⟨g1, e1, _, h2, _, h4⟩
    · exact absurd h HNe.out
    · exact ⟨g1, e1, h2, trivial, h4⟩
  have HMc := Lib.hid (HM.out g1 c1 (w1.alloc (.cells #[.int .i64 D, .int .i64 N, .slice (some ⟨g1, 0, none⟩) xs.length c1] 26)) (by simp; omega) (hTi.below (below1 w1 _) hg1))
  clear hb hT hN hTi
  go_wp2_with fail
  refine HMc.out.mono ?_
  rintro e w2 ⟨a4, c4, rfl, hb2, hN4⟩
  have hT2 := (HT.out.alloc (.cells #[.int .i64 D, .int .i64 N, .slice (some ⟨g1, 0, none⟩) xs.length c1] 26)).next hb2
  have HW2 := Lib.hid ((HW1.out.alloc HW1.out.size (.cells #[.int .i64 D, .int .i64 N, .slice (some ⟨g1, 0, none⟩) xs.length c1] 26)).trans (hb2.mono (by have := HW1.out.size; simp; omega)))
  obtain ⟨hzr, r0, r1, r2, z0, z1, z2⟩ := id hT2
  have hz2 : w1.heap.size < w2.heap.size := by have := hb2.size; simp at this; omega
  have HN4 := Lib.hid (hN4.mono (lo' := w.heap.size + 1) (hi' := w2.heap.size) (by simp; omega) (Nat.le_refl _))
  clear hb2 hT2 hN4
  go_wp2
  refine bodyPost_ret (v := .tuple #[.agg #[.int .i64 D, .int .i64 N, .slice a4 (termsOf h (allW D N)).length c4], .int .i64 0]) (by simp [results, Tryz.results15, go_sem, r0, r1, r2]) rfl ⟨a4, c4, rfl, ?_, ?_⟩
  · have hW := HW2.out
    go_grown
  · first
      | exact (((HN4.out.far1s (by omega)).far1s (by omega)).far1s (by omega)).mono (by omega) (by simp)
      | exact ((((HN4.out.below (below1 _ _) (by simp)).far1s (by omega)).far1s (by omega)).far1s (by omega)).mono (by omega) (by simp)
      | exact ((((HN4.out.far1s (by omega)).far1s (by omega)).far1s (by omega)).below (below1 _ _) (by simp)).mono (by omega) (by simp)
end Go.Proofs.YtngpnbdndkddlaaGreatDoor
