/-
  Contracts of PutTerm, of the program and of its model: both return the same series and code.
-/
import Derived.Test.YtbhbcjaaomdlaaaPutI
import Derived.Test.YtbhbcjaaomdlaaaNew4
import Derived.Test.YtbhbcjaaomdlaaaAddT
import Derived.Test.YtbhbcjaaomdlaaaConst
namespace Go.Proofs.Ytbhbcjaaomdlaaa
open Go.RowKit

theorem putL_some (u : Tm) : ∀ l : List Tm, (∀ t ∈ l, t.s ≠ u.s) → ∃ rs, putL l u = some rs ∧ rs.length ≤ l.length + 1 ∧ ∀ t ∈ rs, t ∈ l ∨ t = u
  | [], _ => by
    refine ⟨conT u [], rfl, ?_, fun t ht => ?_⟩
    · unfold conT; split <;> simp
    · unfold conT at ht; split at ht <;> simp_all
  | t :: r, h => by
    obtain ⟨rs, h1, h2, h3⟩ := putL_some u r (fun t ht => h t (by simp [ht]))
    by_cases hl : lessT t u = true
    · refine ⟨t :: rs, by simp [putL, hl, h1], by simp; omega, fun t' ht => ?_⟩
      rcases List.mem_cons.1 ht with rfl | ht
      · exact .inl (by simp)
      · rcases h3 t' ht with h | h
        · exact .inl (by simp [h])
        · exact .inr h
    · have hne := h t (by simp)
      refine ⟨conT u (t :: r), by simp [putL, hl, putHere, hne], ?_, fun t' ht => ?_⟩
      · unfold conT; split <;> simp
      · unfold conT at ht
        split at ht
        · exact .inl ht
        · rcases List.mem_cons.1 ht with rfl | ht
          · exact .inr rfl
          · exact .inl ht
theorem NewRow.far1 {lo hi n i : Nat} {w : World} {a : Option Addr} {ts : List Tm} {x : Value} (h : NewRow lo hi w a ts) (hn : n < lo) : NewRow lo hi (w.setCell ⟨n, i, none⟩ x) a ts := by
  rcases h with h | ⟨g, e, h1, h2, h3, h4⟩
  · exact .inl h
  · exact .inr ⟨g, e, h1, h2, h3.set _ _, h4.setCell (by show n ≠ g; omega) _⟩
theorem oth_ne {s : ByteArray} {ts : List Tm} : ∀ t ∈ othL s ts, t.s ≠ s := fun t ht => by simpa using (List.mem_filter.1 ht).2
theorem oth_mem {s : ByteArray} {ts : List Tm} {t : Tm} (h : t ∈ othL s ts) : t ∈ ts := (List.mem_filter.1 h).1
theorem oth_snoc {s : ByteArray} {ts : List Tm} {k : Nat} (hk : k < ts.length) : othL s (ts.take (k + 1)) = othL s (ts.take k) ++ (if decide (ts[k].s ≠ s) then [ts[k]] else []) := filter_snoc hk
theorem oth_le {s : ByteArray} {ts : List Tm} {k : Nat} : (othL s (ts.take k)).length ≤ ts.length := filter_le

section
variable (L V : Int) (g : Nat) (ts : List Tm) (s : ByteArray) (x d : Int) (w : World)

set_option maxRecDepth 100000 in
set_option maxHeartbeats 8000000 in
theorem sPut_1 (h1 : serB L V ts = false) (hl : ts.length ≤ 1048576) (hs : ∀ i (h : i < ts.length), (ts[i]).s.size ≤ maxLen) (_hsz : s.size ≤ maxLen) (hb : g < w.heap.size) (ht : TermsIn w g 0 ts) :
    Calls Try.prog 16 #[.agg #[.int .i64 L, .int .i64 V, .slice (some ⟨g, 0, none⟩) ts.length ts.length], .string s, .agg #[.int .i64 x, .int .i64 d]] w (SerPost 0 0 [] 1 w) := by
  have HT := Lib.hid ht
  have HS := Lib.hid hs
  clear ht hs
  go_enter Try.func16, Try.ntmps16
  go_wp2_with fail
  refine (l01Is_c L V g 0 _ ts hl HS.out _ (by simp; omega) (HT.out.below (below3 w _ _ _) hb)).mono ?_
  rintro e w1 ⟨rfl, hb1⟩
  have HB1 := Lib.hid (show Below (w.heap.size + 1 + 1 + 1) (((w.alloc (.cells #[.int .i64 L, .int .i64 V, .slice (some ⟨g, 0, none⟩) ts.length ts.length] 28)).alloc (.cells #[.int .i64 x, .int .i64 d] 38)).alloc (.cells #[.int .i64 0, .int .i64 0, .slice none 0 0] 28)) w1 from by simpa using hb1)
  have hz1 : w.heap.size + 1 + 1 + 1 ≤ w1.heap.size := by have := hb1.size; simpa using this
  clear hb1
  rw [h1]
  obtain ⟨hc, hf⟩ := bcellB HB1.out
  have r0 : w1.cell? ⟨w.heap.size + 1 + 1, 0, none⟩ = some (.int .i64 0) := (hc _ _ (by omega)).trans (by go_simp)
  have r1 : w1.cell? ⟨w.heap.size + 1 + 1, 1, none⟩ = some (.int .i64 0) := (hc _ _ (by omega)).trans (by go_simp)
  have r2 : w1.cell? ⟨w.heap.size + 1 + 1, 2, none⟩ = some (.slice none 0 0) := (hc _ _ (by omega)).trans (by go_simp)
  have z0 : w1.frozen? ⟨w.heap.size + 1 + 1, 0, none⟩ = false := (hf _ _ (by omega)).trans (by go_simp)
  have z1 : w1.frozen? ⟨w.heap.size + 1 + 1, 1, none⟩ = false := (hf _ _ (by omega)).trans (by go_simp)
  have z2 : w1.frozen? ⟨w.heap.size + 1 + 1, 2, none⟩ = false := (hf _ _ (by omega)).trans (by go_simp)
  clear hc hf
  have HW := Lib.hid ((below3 w (.cells #[.int .i64 L, .int .i64 V, .slice (some ⟨g, 0, none⟩) ts.length ts.length] 28) (.cells #[.int .i64 x, .int .i64 d] 38) (.cells #[.int .i64 0, .int .i64 0, .slice none 0 0] 28)).trans (HB1.out.mono (by omega)))
  go_wp2
  refine bodyPost_ret (v := .tuple #[.agg #[.int .i64 0, .int .i64 0, .slice none 0 0], .int .i64 1]) (by simp [results, Try.results16, go_sem, r0, r1, r2]) rfl (SerPost.err 1 rfl ?_)
  have hW := HW.out
  go_grown

set_option maxRecDepth 100000 in
set_option maxHeartbeats 8000000 in
theorem sPut_2 (h1 : serB L V ts = true) (h2 : isF x d = false) (hl : ts.length ≤ 1048576) (hs : ∀ i (h : i < ts.length), (ts[i]).s.size ≤ maxLen) (_hsz : s.size ≤ maxLen) (hb : g < w.heap.size) (ht : TermsIn w g 0 ts) :
    Calls Try.prog 16 #[.agg #[.int .i64 L, .int .i64 V, .slice (some ⟨g, 0, none⟩) ts.length ts.length], .string s, .agg #[.int .i64 x, .int .i64 d]] w (SerPost 0 0 [] 1 w) := by
  have HT := Lib.hid ht
  have HS := Lib.hid hs
  clear ht hs
  go_enter Try.func16, Try.ntmps16
  go_wp2_with fail
  refine (l01Is_c L V g 0 _ ts hl HS.out _ (by simp; omega) (HT.out.below (below3 w _ _ _) hb)).mono ?_
  rintro e w1 ⟨rfl, hb1⟩
  have HB1 := Lib.hid (show Below (w.heap.size + 1 + 1 + 1) (((w.alloc (.cells #[.int .i64 L, .int .i64 V, .slice (some ⟨g, 0, none⟩) ts.length ts.length] 28)).alloc (.cells #[.int .i64 x, .int .i64 d] 38)).alloc (.cells #[.int .i64 0, .int .i64 0, .slice none 0 0] 28)) w1 from by simpa using hb1)
  have hz1 : w.heap.size + 1 + 1 + 1 ≤ w1.heap.size := by have := hb1.size; simpa using this
  clear hb1
  rw [h1]
  obtain ⟨hc, hf⟩ := bcellB HB1.out
  have d0 : w1.cell? ⟨w.heap.size + 1, 0, none⟩ = some (.int .i64 x) := (hc _ _ (by omega)).trans (by go_simp)
  have d1 : w1.cell? ⟨w.heap.size + 1, 1, none⟩ = some (.int .i64 d) := (hc _ _ (by omega)).trans (by go_simp)
  clear hc hf
  go_wp2_with fail
  refine (l01IsFrac_c x d _).mono ?_
  rw [h2]
  rintro e w2 ⟨rfl, hb2⟩
  have HB2 := Lib.hid (HB1.out.trans (hb2.mono (by omega)))
  have hz2 : w.heap.size + 1 + 1 + 1 ≤ w2.heap.size := by have := hb2.size; omega
  clear hb2
  clear d0 d1
  obtain ⟨hc, hf⟩ := bcellB HB2.out
  have r0 : w2.cell? ⟨w.heap.size + 1 + 1, 0, none⟩ = some (.int .i64 0) := (hc _ _ (by omega)).trans (by go_simp)
  have r1 : w2.cell? ⟨w.heap.size + 1 + 1, 1, none⟩ = some (.int .i64 0) := (hc _ _ (by omega)).trans (by go_simp)
  have r2 : w2.cell? ⟨w.heap.size + 1 + 1, 2, none⟩ = some (.slice none 0 0) := (hc _ _ (by omega)).trans (by go_simp)
  have z0 : w2.frozen? ⟨w.heap.size + 1 + 1, 0, none⟩ = false := (hf _ _ (by omega)).trans (by go_simp)
  have z1 : w2.frozen? ⟨w.heap.size + 1 + 1, 1, none⟩ = false := (hf _ _ (by omega)).trans (by go_simp)
  have z2 : w2.frozen? ⟨w.heap.size + 1 + 1, 2, none⟩ = false := (hf _ _ (by omega)).trans (by go_simp)
  clear hc hf
  have HW := Lib.hid ((below3 w (.cells #[.int .i64 L, .int .i64 V, .slice (some ⟨g, 0, none⟩) ts.length ts.length] 28) (.cells #[.int .i64 x, .int .i64 d] 38) (.cells #[.int .i64 0, .int .i64 0, .slice none 0 0] 28)).trans (HB2.out.mono (by omega)))
  go_wp2
  refine bodyPost_ret (v := .tuple #[.agg #[.int .i64 0, .int .i64 0, .slice none 0 0], .int .i64 1]) (by simp [results, Try.results16, go_sem, r0, r1, r2]) rfl (SerPost.err 1 rfl ?_)
  have hW := HW.out
  go_grown

set_option maxRecDepth 100000 in
set_option maxHeartbeats 8000000 in
theorem sPut_3a (h1 : serB L V ts = true) (h2 : isF x d = true) (h3 : V < (s.size : Int)) (hl : ts.length ≤ 1048576) (hs : ∀ i (h : i < ts.length), (ts[i]).s.size ≤ maxLen) (_hsz : s.size ≤ maxLen) (hb : g < w.heap.size) (ht : TermsIn w g 0 ts) :
    Calls Try.prog 16 #[.agg #[.int .i64 L, .int .i64 V, .slice (some ⟨g, 0, none⟩) ts.length ts.length], .string s, .agg #[.int .i64 x, .int .i64 d]] w (SerPost 0 0 [] 2 w) := by
  have HT := Lib.hid ht
  have HS := Lib.hid hs
  clear ht hs
  go_enter Try.func16, Try.ntmps16
  go_wp2_with fail
  refine (l01Is_c L V g 0 _ ts hl HS.out _ (by simp; omega) (HT.out.below (below3 w _ _ _) hb)).mono ?_
  rintro e w1 ⟨rfl, hb1⟩
  have HB1 := Lib.hid (show Below (w.heap.size + 1 + 1 + 1) (((w.alloc (.cells #[.int .i64 L, .int .i64 V, .slice (some ⟨g, 0, none⟩) ts.length ts.length] 28)).alloc (.cells #[.int .i64 x, .int .i64 d] 38)).alloc (.cells #[.int .i64 0, .int .i64 0, .slice none 0 0] 28)) w1 from by simpa using hb1)
  have hz1 : w.heap.size + 1 + 1 + 1 ≤ w1.heap.size := by have := hb1.size; simpa using this
  clear hb1
  rw [h1]
  obtain ⟨hc, hf⟩ := bcellB HB1.out
  have d0 : w1.cell? ⟨w.heap.size + 1, 0, none⟩ = some (.int .i64 x) := (hc _ _ (by omega)).trans (by go_simp)
  have d1 : w1.cell? ⟨w.heap.size + 1, 1, none⟩ = some (.int .i64 d) := (hc _ _ (by omega)).trans (by go_simp)
  clear hc hf
  go_wp2_with fail
  refine (l01IsFrac_c x d _).mono ?_
  rw [h2]
  rintro e w2 ⟨rfl, hb2⟩
  have HB2 := Lib.hid (HB1.out.trans (hb2.mono (by omega)))
  have hz2 : w.heap.size + 1 + 1 + 1 ≤ w2.heap.size := by have := hb2.size; omega
  clear hb2
  clear d0 d1
  obtain ⟨hc, hf⟩ := bcellB HB2.out
  have r0 : w2.cell? ⟨w.heap.size + 1 + 1, 0, none⟩ = some (.int .i64 0) := (hc _ _ (by omega)).trans (by go_simp)
  have r1 : w2.cell? ⟨w.heap.size + 1 + 1, 1, none⟩ = some (.int .i64 0) := (hc _ _ (by omega)).trans (by go_simp)
  have r2 : w2.cell? ⟨w.heap.size + 1 + 1, 2, none⟩ = some (.slice none 0 0) := (hc _ _ (by omega)).trans (by go_simp)
  have z0 : w2.frozen? ⟨w.heap.size + 1 + 1, 0, none⟩ = false := (hf _ _ (by omega)).trans (by go_simp)
  have z1 : w2.frozen? ⟨w.heap.size + 1 + 1, 1, none⟩ = false := (hf _ _ (by omega)).trans (by go_simp)
  have z2 : w2.frozen? ⟨w.heap.size + 1 + 1, 2, none⟩ = false := (hf _ _ (by omega)).trans (by go_simp)
  have x1 : w2.cell? ⟨w.heap.size, 1, none⟩ = some (.int .i64 V) := (hc _ _ (by omega)).trans (by go_simp)
  clear hc hf
  have HW := Lib.hid ((below3 w (.cells #[.int .i64 L, .int .i64 V, .slice (some ⟨g, 0, none⟩) ts.length ts.length] 28) (.cells #[.int .i64 x, .int .i64 d] 38) (.cells #[.int .i64 0, .int .i64 0, .slice none 0 0] 28)).trans (HB2.out.mono (by omega)))
  go_wp2
  refine bodyPost_ret (v := .tuple #[.agg #[.int .i64 0, .int .i64 0, .slice none 0 0], .int .i64 2]) (by simp [results, Try.results16, go_sem, r0, r1, r2]) rfl (SerPost.err 2 rfl ?_)
  have hW := HW.out
  go_grown

set_option maxRecDepth 100000 in
set_option maxHeartbeats 8000000 in
theorem sPut_3b (h1 : serB L V ts = true) (h2 : isF x d = true) (h3 : ¬ V < (s.size : Int)) (h4 : wordB L s.data.toList = false) (hl : ts.length ≤ 1048576) (hs : ∀ i (h : i < ts.length), (ts[i]).s.size ≤ maxLen) (hsz : s.size ≤ maxLen) (hb : g < w.heap.size) (ht : TermsIn w g 0 ts) :
    Calls Try.prog 16 #[.agg #[.int .i64 L, .int .i64 V, .slice (some ⟨g, 0, none⟩) ts.length ts.length], .string s, .agg #[.int .i64 x, .int .i64 d]] w (SerPost 0 0 [] 2 w) := by
  have HT := Lib.hid ht
  have HS := Lib.hid hs
  clear ht hs
  go_enter Try.func16, Try.ntmps16
  go_wp2_with fail
  refine (l01Is_c L V g 0 _ ts hl HS.out _ (by simp; omega) (HT.out.below (below3 w _ _ _) hb)).mono ?_
  rintro e w1 ⟨rfl, hb1⟩
  have HB1 := Lib.hid (show Below (w.heap.size + 1 + 1 + 1) (((w.alloc (.cells #[.int .i64 L, .int .i64 V, .slice (some ⟨g, 0, none⟩) ts.length ts.length] 28)).alloc (.cells #[.int .i64 x, .int .i64 d] 38)).alloc (.cells #[.int .i64 0, .int .i64 0, .slice none 0 0] 28)) w1 from by simpa using hb1)
  have hz1 : w.heap.size + 1 + 1 + 1 ≤ w1.heap.size := by have := hb1.size; simpa using this
  clear hb1
  rw [h1]
  obtain ⟨hc, hf⟩ := bcellB HB1.out
  have d0 : w1.cell? ⟨w.heap.size + 1, 0, none⟩ = some (.int .i64 x) := (hc _ _ (by omega)).trans (by go_simp)
  have d1 : w1.cell? ⟨w.heap.size + 1, 1, none⟩ = some (.int .i64 d) := (hc _ _ (by omega)).trans (by go_simp)
  clear hc hf
  go_wp2_with fail
  refine (l01IsFrac_c x d _).mono ?_
  rw [h2]
  rintro e w2 ⟨rfl, hb2⟩
  have HB2 := Lib.hid (HB1.out.trans (hb2.mono (by omega)))
  have hz2 : w.heap.size + 1 + 1 + 1 ≤ w2.heap.size := by have := hb2.size; omega
  clear hb2
  clear d0 d1
  obtain ⟨hc, hf⟩ := bcellB HB2.out
  have r0 : w2.cell? ⟨w.heap.size + 1 + 1, 0, none⟩ = some (.int .i64 0) := (hc _ _ (by omega)).trans (by go_simp)
  have r1 : w2.cell? ⟨w.heap.size + 1 + 1, 1, none⟩ = some (.int .i64 0) := (hc _ _ (by omega)).trans (by go_simp)
  have r2 : w2.cell? ⟨w.heap.size + 1 + 1, 2, none⟩ = some (.slice none 0 0) := (hc _ _ (by omega)).trans (by go_simp)
  have z0 : w2.frozen? ⟨w.heap.size + 1 + 1, 0, none⟩ = false := (hf _ _ (by omega)).trans (by go_simp)
  have z1 : w2.frozen? ⟨w.heap.size + 1 + 1, 1, none⟩ = false := (hf _ _ (by omega)).trans (by go_simp)
  have z2 : w2.frozen? ⟨w.heap.size + 1 + 1, 2, none⟩ = false := (hf _ _ (by omega)).trans (by go_simp)
  have x0 : w2.cell? ⟨w.heap.size, 0, none⟩ = some (.int .i64 L) := (hc _ _ (by omega)).trans (by go_simp)
  have x1 : w2.cell? ⟨w.heap.size, 1, none⟩ = some (.int .i64 V) := (hc _ _ (by omega)).trans (by go_simp)
  clear hc hf
  go_wp2_with fail
  refine (l01Word_c L s hsz _).mono ?_
  rw [h4]
  rintro e w3 ⟨rfl, rfl⟩
  have HW := Lib.hid ((below3 w (.cells #[.int .i64 L, .int .i64 V, .slice (some ⟨g, 0, none⟩) ts.length ts.length] 28) (.cells #[.int .i64 x, .int .i64 d] 38) (.cells #[.int .i64 0, .int .i64 0, .slice none 0 0] 28)).trans (HB2.out.mono (by omega)))
  go_wp2
  refine bodyPost_ret (v := .tuple #[.agg #[.int .i64 0, .int .i64 0, .slice none 0 0], .int .i64 2]) (by simp [results, Try.results16, go_sem, r0, r1, r2]) rfl (SerPost.err 2 rfl ?_)
  have hW := HW.out
  go_grown

set_option maxRecDepth 100000 in
set_option maxHeartbeats 8000000 in
theorem iPut_1 (h1 : serB L V ts = false) (hl : ts.length ≤ 1048576) (hs : ∀ i (h : i < ts.length), (ts[i]).s.size ≤ maxLen) (_hsz : s.size ≤ maxLen) (hb : g < w.heap.size) (ht : TermsIn w g 0 ts) :
    Calls Try.prog 17 #[.agg #[.int .i64 L, .int .i64 V, .slice (some ⟨g, 0, none⟩) ts.length ts.length], .string s, .agg #[.int .i64 x, .int .i64 d]] w (SerPost 0 0 [] 1 w) := by
  have HT := Lib.hid ht
  have HS := Lib.hid hs
  clear ht hs
  go_enter Try.func17, Try.ntmps17
  go_wp2_with fail
  refine (iIsSeries_c L V g 0 _ ts hl HS.out _ (by simp; omega) (HT.out.below (below3 w _ _ _) hb)).mono ?_
  rintro e w1 ⟨rfl, hb1⟩
  have HB1 := Lib.hid (show Below (w.heap.size + 1 + 1 + 1) (((w.alloc (.cells #[.int .i64 L, .int .i64 V, .slice (some ⟨g, 0, none⟩) ts.length ts.length] 28)).alloc (.cells #[.int .i64 x, .int .i64 d] 38)).alloc (.cells #[.int .i64 0, .int .i64 0, .slice none 0 0] 28)) w1 from by simpa using hb1)
  have hz1 : w.heap.size + 1 + 1 + 1 ≤ w1.heap.size := by have := hb1.size; simpa using this
  clear hb1
  rw [h1]
  obtain ⟨hc, hf⟩ := bcellB HB1.out
  have r0 : w1.cell? ⟨w.heap.size + 1 + 1, 0, none⟩ = some (.int .i64 0) := (hc _ _ (by omega)).trans (by go_simp)
  have r1 : w1.cell? ⟨w.heap.size + 1 + 1, 1, none⟩ = some (.int .i64 0) := (hc _ _ (by omega)).trans (by go_simp)
  have r2 : w1.cell? ⟨w.heap.size + 1 + 1, 2, none⟩ = some (.slice none 0 0) := (hc _ _ (by omega)).trans (by go_simp)
  have z0 : w1.frozen? ⟨w.heap.size + 1 + 1, 0, none⟩ = false := (hf _ _ (by omega)).trans (by go_simp)
  have z1 : w1.frozen? ⟨w.heap.size + 1 + 1, 1, none⟩ = false := (hf _ _ (by omega)).trans (by go_simp)
  have z2 : w1.frozen? ⟨w.heap.size + 1 + 1, 2, none⟩ = false := (hf _ _ (by omega)).trans (by go_simp)
  clear hc hf
  have HW := Lib.hid ((below3 w (.cells #[.int .i64 L, .int .i64 V, .slice (some ⟨g, 0, none⟩) ts.length ts.length] 28) (.cells #[.int .i64 x, .int .i64 d] 38) (.cells #[.int .i64 0, .int .i64 0, .slice none 0 0] 28)).trans (HB1.out.mono (by omega)))
  go_wp2
  refine bodyPost_ret (v := .tuple #[.agg #[.int .i64 0, .int .i64 0, .slice none 0 0], .int .i64 1]) (by simp [results, Try.results17, go_sem, r0, r1, r2]) rfl (SerPost.err 1 rfl ?_)
  have hW := HW.out
  go_grown

set_option maxRecDepth 100000 in
set_option maxHeartbeats 8000000 in
theorem iPut_2 (h1 : serB L V ts = true) (h2 : isF x d = false) (hl : ts.length ≤ 1048576) (hs : ∀ i (h : i < ts.length), (ts[i]).s.size ≤ maxLen) (_hsz : s.size ≤ maxLen) (hb : g < w.heap.size) (ht : TermsIn w g 0 ts) :
    Calls Try.prog 17 #[.agg #[.int .i64 L, .int .i64 V, .slice (some ⟨g, 0, none⟩) ts.length ts.length], .string s, .agg #[.int .i64 x, .int .i64 d]] w (SerPost 0 0 [] 1 w) := by
  have HT := Lib.hid ht
  have HS := Lib.hid hs
  clear ht hs
  go_enter Try.func17, Try.ntmps17
  go_wp2_with fail
  refine (iIsSeries_c L V g 0 _ ts hl HS.out _ (by simp; omega) (HT.out.below (below3 w _ _ _) hb)).mono ?_
  rintro e w1 ⟨rfl, hb1⟩
  have HB1 := Lib.hid (show Below (w.heap.size + 1 + 1 + 1) (((w.alloc (.cells #[.int .i64 L, .int .i64 V, .slice (some ⟨g, 0, none⟩) ts.length ts.length] 28)).alloc (.cells #[.int .i64 x, .int .i64 d] 38)).alloc (.cells #[.int .i64 0, .int .i64 0, .slice none 0 0] 28)) w1 from by simpa using hb1)
  have hz1 : w.heap.size + 1 + 1 + 1 ≤ w1.heap.size := by have := hb1.size; simpa using this
  clear hb1
  rw [h1]
  obtain ⟨hc, hf⟩ := bcellB HB1.out
  have d0 : w1.cell? ⟨w.heap.size + 1, 0, none⟩ = some (.int .i64 x) := (hc _ _ (by omega)).trans (by go_simp)
  have d1 : w1.cell? ⟨w.heap.size + 1, 1, none⟩ = some (.int .i64 d) := (hc _ _ (by omega)).trans (by go_simp)
  clear hc hf
  go_wp2_with fail
  refine (isFraction_c x d _).mono ?_
  rw [h2]
  rintro e w2 ⟨rfl, hb2⟩
  have HB2 := Lib.hid (HB1.out.trans (hb2.mono (by omega)))
  have hz2 : w.heap.size + 1 + 1 + 1 ≤ w2.heap.size := by have := hb2.size; omega
  clear hb2
  clear d0 d1
  obtain ⟨hc, hf⟩ := bcellB HB2.out
  have r0 : w2.cell? ⟨w.heap.size + 1 + 1, 0, none⟩ = some (.int .i64 0) := (hc _ _ (by omega)).trans (by go_simp)
  have r1 : w2.cell? ⟨w.heap.size + 1 + 1, 1, none⟩ = some (.int .i64 0) := (hc _ _ (by omega)).trans (by go_simp)
  have r2 : w2.cell? ⟨w.heap.size + 1 + 1, 2, none⟩ = some (.slice none 0 0) := (hc _ _ (by omega)).trans (by go_simp)
  have z0 : w2.frozen? ⟨w.heap.size + 1 + 1, 0, none⟩ = false := (hf _ _ (by omega)).trans (by go_simp)
  have z1 : w2.frozen? ⟨w.heap.size + 1 + 1, 1, none⟩ = false := (hf _ _ (by omega)).trans (by go_simp)
  have z2 : w2.frozen? ⟨w.heap.size + 1 + 1, 2, none⟩ = false := (hf _ _ (by omega)).trans (by go_simp)
  clear hc hf
  have HW := Lib.hid ((below3 w (.cells #[.int .i64 L, .int .i64 V, .slice (some ⟨g, 0, none⟩) ts.length ts.length] 28) (.cells #[.int .i64 x, .int .i64 d] 38) (.cells #[.int .i64 0, .int .i64 0, .slice none 0 0] 28)).trans (HB2.out.mono (by omega)))
  go_wp2
  refine bodyPost_ret (v := .tuple #[.agg #[.int .i64 0, .int .i64 0, .slice none 0 0], .int .i64 1]) (by simp [results, Try.results17, go_sem, r0, r1, r2]) rfl (SerPost.err 1 rfl ?_)
  have hW := HW.out
  go_grown

set_option maxRecDepth 100000 in
set_option maxHeartbeats 8000000 in
theorem iPut_3 (h1 : serB L V ts = true) (h2 : isF x d = true) (h3 : wordOk L V s = false) (hl : ts.length ≤ 1048576) (hs : ∀ i (h : i < ts.length), (ts[i]).s.size ≤ maxLen) (hsz : s.size ≤ maxLen) (hb : g < w.heap.size) (ht : TermsIn w g 0 ts) :
    Calls Try.prog 17 #[.agg #[.int .i64 L, .int .i64 V, .slice (some ⟨g, 0, none⟩) ts.length ts.length], .string s, .agg #[.int .i64 x, .int .i64 d]] w (SerPost 0 0 [] 2 w) := by
  have HT := Lib.hid ht
  have HS := Lib.hid hs
  clear ht hs
  have h3' : (decide ((s.size : Int) ≤ V) && wordB L s.data.toList) = false := h3
  go_enter Try.func17, Try.ntmps17
  go_wp2_with fail
  refine (iIsSeries_c L V g 0 _ ts hl HS.out _ (by simp; omega) (HT.out.below (below3 w _ _ _) hb)).mono ?_
  rintro e w1 ⟨rfl, hb1⟩
  have HB1 := Lib.hid (show Below (w.heap.size + 1 + 1 + 1) (((w.alloc (.cells #[.int .i64 L, .int .i64 V, .slice (some ⟨g, 0, none⟩) ts.length ts.length] 28)).alloc (.cells #[.int .i64 x, .int .i64 d] 38)).alloc (.cells #[.int .i64 0, .int .i64 0, .slice none 0 0] 28)) w1 from by simpa using hb1)
  have hz1 : w.heap.size + 1 + 1 + 1 ≤ w1.heap.size := by have := hb1.size; simpa using this
  clear hb1
  rw [h1]
  obtain ⟨hc, hf⟩ := bcellB HB1.out
  have d0 : w1.cell? ⟨w.heap.size + 1, 0, none⟩ = some (.int .i64 x) := (hc _ _ (by omega)).trans (by go_simp)
  have d1 : w1.cell? ⟨w.heap.size + 1, 1, none⟩ = some (.int .i64 d) := (hc _ _ (by omega)).trans (by go_simp)
  clear hc hf
  go_wp2_with fail
  refine (isFraction_c x d _).mono ?_
  rw [h2]
  rintro e w2 ⟨rfl, hb2⟩
  have HB2 := Lib.hid (HB1.out.trans (hb2.mono (by omega)))
  have hz2 : w.heap.size + 1 + 1 + 1 ≤ w2.heap.size := by have := hb2.size; omega
  clear hb2
  clear d0 d1
  obtain ⟨hc, hf⟩ := bcellB HB2.out
  have r0 : w2.cell? ⟨w.heap.size + 1 + 1, 0, none⟩ = some (.int .i64 0) := (hc _ _ (by omega)).trans (by go_simp)
  have r1 : w2.cell? ⟨w.heap.size + 1 + 1, 1, none⟩ = some (.int .i64 0) := (hc _ _ (by omega)).trans (by go_simp)
  have r2 : w2.cell? ⟨w.heap.size + 1 + 1, 2, none⟩ = some (.slice none 0 0) := (hc _ _ (by omega)).trans (by go_simp)
  have z0 : w2.frozen? ⟨w.heap.size + 1 + 1, 0, none⟩ = false := (hf _ _ (by omega)).trans (by go_simp)
  have z1 : w2.frozen? ⟨w.heap.size + 1 + 1, 1, none⟩ = false := (hf _ _ (by omega)).trans (by go_simp)
  have z2 : w2.frozen? ⟨w.heap.size + 1 + 1, 2, none⟩ = false := (hf _ _ (by omega)).trans (by go_simp)
  have x0 : w2.cell? ⟨w.heap.size, 0, none⟩ = some (.int .i64 L) := (hc _ _ (by omega)).trans (by go_simp)
  have x1 : w2.cell? ⟨w.heap.size, 1, none⟩ = some (.int .i64 V) := (hc _ _ (by omega)).trans (by go_simp)
  clear hc hf
  go_wp2_with fail
  refine (isWord_c L V s hsz _).mono ?_
  rw [h3']
  rintro e w3 ⟨rfl, rfl⟩
  have HW := Lib.hid ((below3 w (.cells #[.int .i64 L, .int .i64 V, .slice (some ⟨g, 0, none⟩) ts.length ts.length] 28) (.cells #[.int .i64 x, .int .i64 d] 38) (.cells #[.int .i64 0, .int .i64 0, .slice none 0 0] 28)).trans (HB2.out.mono (by omega)))
  go_wp2
  refine bodyPost_ret (v := .tuple #[.agg #[.int .i64 0, .int .i64 0, .slice none 0 0], .int .i64 2]) (by simp [results, Try.results17, go_sem, r0, r1, r2]) rfl (SerPost.err 2 rfl ?_)
  have hW := HW.out
  go_grown

set_option maxRecDepth 100000 in
set_option maxHeartbeats 8000000 in
theorem sPut_4 (rs : List Tm) (h1 : serB L V ts = true) (h2 : isF x d = true) (h3 : ¬ V < (s.size : Int)) (h4 : wordB L s.data.toList = true) (hp : putL (othL s ts) ⟨s, x, d⟩ = some rs) (hl : ts.length ≤ 1048576) (hs : ∀ i (h : i < ts.length), (ts[i]).s.size ≤ maxLen) (hsz : s.size ≤ maxLen) (hb : g < w.heap.size) (ht : TermsIn w g 0 ts) :
    Calls Try.prog 16 #[.agg #[.int .i64 L, .int .i64 V, .slice (some ⟨g, 0, none⟩) ts.length ts.length], .string s, .agg #[.int .i64 x, .int .i64 d]] w (SerPost L V rs 0 w) := by
  have HT := Lib.hid ht
  have HS := Lib.hid hs
  clear ht hs
  obtain ⟨i0, hi0, hi1, hi2, hi3⟩ := info_parts info_term
  have HP := Lib.hid hp
  have HF := Lib.hid h2
  have HSer := Lib.hid h1
  clear hp
  go_enter Try.func16, Try.ntmps16
  go_wp2_with fail
  refine (l01Is_c L V g 0 _ ts hl HS.out _ (by simp; omega) (HT.out.below (below3 w _ _ _) hb)).mono ?_
  rintro e w1 ⟨rfl, hb1⟩
  have HB1 := Lib.hid (show Below (w.heap.size + 1 + 1 + 1) (((w.alloc (.cells #[.int .i64 L, .int .i64 V, .slice (some ⟨g, 0, none⟩) ts.length ts.length] 28)).alloc (.cells #[.int .i64 x, .int .i64 d] 38)).alloc (.cells #[.int .i64 0, .int .i64 0, .slice none 0 0] 28)) w1 from by simpa using hb1)
  have hz1 : w.heap.size + 1 + 1 + 1 ≤ w1.heap.size := by have := hb1.size; simpa using this
  clear hb1
  rw [h1]
  obtain ⟨hc, hf⟩ := bcellB HB1.out
  have d0 : w1.cell? ⟨w.heap.size + 1, 0, none⟩ = some (.int .i64 x) := (hc _ _ (by omega)).trans (by go_simp)
  have d1 : w1.cell? ⟨w.heap.size + 1, 1, none⟩ = some (.int .i64 d) := (hc _ _ (by omega)).trans (by go_simp)
  clear hc hf
  go_wp2_with fail
  refine (l01IsFrac_c x d _).mono ?_
  rw [h2]
  rintro e w2 ⟨rfl, hb2⟩
  have HB2 := Lib.hid (HB1.out.trans (hb2.mono (by omega)))
  have hz2 : w.heap.size + 1 + 1 + 1 ≤ w2.heap.size := by have := hb2.size; omega
  clear hb2
  clear d0 d1
  obtain ⟨hc, hf⟩ := bcellB HB2.out
  have x0 : w2.cell? ⟨w.heap.size, 0, none⟩ = some (.int .i64 L) := (hc _ _ (by omega)).trans (by go_simp)
  have x1 : w2.cell? ⟨w.heap.size, 1, none⟩ = some (.int .i64 V) := (hc _ _ (by omega)).trans (by go_simp)
  have x2 : w2.cell? ⟨w.heap.size, 2, none⟩ = some (.slice (some ⟨g, 0, none⟩) ts.length ts.length) := (hc _ _ (by omega)).trans (by go_simp)
  clear hc hf
  go_wp2_with fail
  refine (l01Word_c L s hsz _).mono ?_
  rw [h4]
  rintro e w3 ⟨rfl, rfl⟩
  go_wp2_with fail
  refine (l01Empty_c L V _ rfl _).mono ?_
  rintro e w3 ⟨g3, rfl, hO, hb3⟩
  have HO := Lib.hid (show OwnT w3 (w.heap.size + 1 + 1 + 1) (.slice (some ⟨g3, 0, none⟩) 0 0) [] from hO.mono hz2)
  have HB3 := Lib.hid (HB2.out.trans (hb3.mono hz2))
  have hz3 : w2.heap.size ≤ w3.heap.size := hb3.size
  have hz3' : w.heap.size + 1 + 1 + 1 ≤ w3.heap.size := by omega
  clear hb3 hO x0 x1 x2
  go_wp2_with fail
  go_loopw [9] (AccRel (fun k => othL s (ts.take k)) ts.length (w.heap.size + 1 + 1 + 1) w3.heap.size (.int .i64 L) (.int .i64 V) (((w.alloc (.cells #[.int .i64 L, .int .i64 V, .slice (some ⟨g, 0, none⟩) ts.length ts.length] 28)).alloc (.cells #[.int .i64 x, .int .i64 d] 38)).alloc (.cells #[.int .i64 0, .int .i64 0, .slice none 0 0] 28))) (fun vi _ => ts.length - (intOf vi).toNat)
  case atStart =>
    exact ⟨0, _, 0, 0, Nat.zero_le _, rfl, rfl, by simpa [othL] using HO.out.alloc _, fun e => by have := (HO.out.lt _ e).2; omega, Blk.new _ _ _, HB3.out.alloc (by omega) _⟩
  case round =>
    obtain ⟨k, av, lv, cv, hk, rfl, hlv, hOk, hnv, hBl, hB⟩ := hrel
    have HLv := Lib.hid hlv
    clear hlv
    have HOk := Lib.hid hOk
    have HBl := Lib.hid hBl
    have HBk := Lib.hid hB
    have HNv := Lib.hid hnv
    have hzn := hBl.lt
    have hzr := hB.size
    simp only [World.size_alloc] at hzr
    have hz0 : w.heap.size < wr.heap.size := by omega
    have bc := bcellB hB
    have x2 : wr.cell? ⟨w.heap.size, 2, none⟩ = some (.slice (some ⟨g, 0, none⟩) ts.length ts.length) := (bc.1 _ _ (by omega)).trans (by go_simp)
    clear hOk hBl hB hnv bc
    by_cases hlt : k < ts.length
    · have HFS := Lib.hid (oth_snoc (s := s) hlt)
      have HFL := Lib.hid (oth_le (s := s) (ts := ts) (k := k))
      obtain ⟨c0, c1, c2⟩ := HT.out.below ((below3 w (.cells #[.int .i64 L, .int .i64 V, .slice (some ⟨g, 0, none⟩) ts.length ts.length] 28) (.cells #[.int .i64 x, .int .i64 d] 38) (.cells #[.int .i64 0, .int .i64 0, .slice none 0 0] 28)).trans (HBk.out.mono (by omega))) hb k hlt
      have hsk := HS.out k hlt
      obtain ⟨sk, nk, dk, het⟩ : ∃ sk nk dk, ts[k] = ⟨sk, nk, dk⟩ := ⟨_, _, _, rfl⟩
      rw [het] at c0 c1 c2 hsk HFS
      simp only [Nat.zero_add] at c0 c1 c2 hsk HFS
      clear het
      unfold maxLen at hsk
      by_cases hq : sk = s
      · have hq1 : decide (sk ≠ s) = false := by simpa using hq
        have hq2 := hq
        rw [hq1] at HFS
        have HFS2 := Lib.hid (show (fun k => othL s (ts.take k)) (k + 1) = othL s (ts.take k) from by have h := HFS.out; simpa using h)
        clear hq hq1
        subst hq2
        have hqs := str_eq_same sk
        have hqs2 : (sk.toList != sk.toList) = false := by simp
        go_wp2
        go_roundw
        case rel => exact AccRel.skip (F := fun k => othL sk (ts.take k)) (by omega) HFS2.out HLv.out HOk.out HNv.out HBl.out HBk.out
        case measure => simp [intOf]; omega
      · have hq1 : decide (sk ≠ s) = true := by simpa using hq
        have hq2 := str_eq_other hq
        have hq3 : (sk.toList != s.toList) = true := by simp [bne, hq2]
        rw [hq1, if_pos rfl] at HFS
        clear hq1
        go_wp2_with fail
        have n2 : wr.cell? ⟨w3.heap.size, 2, none⟩ = some (.slice av lv cv) := HBl.out.cell 2
        have nf : wr.frozen? ⟨w3.heap.size, 2, none⟩ = false := HBl.out.frozen 2
        have e0 := Ne.symm (own_far HOk.out (n := w.heap.size) (by omega))
        have e1 := Ne.symm (own_far HOk.out (n := g) (by omega))
        have e2 := Ne.symm HNv.out
        have nf2 : (wr.alloc (.cells #[.string sk, .int .i64 nk, .int .i64 dk] 60)).drew.frozen? ⟨w3.heap.size, 2, none⟩ = false := (frozen_alloc_lt _ hzn).trans nf
        have nc2 : (wr.alloc (.cells #[.string sk, .int .i64 nk, .int .i64 dk] 60)).drew.cell? ⟨w3.heap.size, 2, none⟩ = some (.slice av lv cv) := ((below1 wr _).cell (p := ⟨w3.heap.size, 2, none⟩) hzn).trans n2
        have hkI : (0 : Int) ≤ (k : Int) := by omega
        have hkL : (k : Int) < (ts.length : Int) := by omega
        go_region_law
          ((refine step_append_lies _ (by rfl) _ _ _ (by rfl) (w.heap.size + 1 + 1 + 1) 60 i0 _ 3 32 Try.underlying26 hi0 hi1 hi2 hi3 rfl (by omega) (.slice av lv cv) lv (cellsT (othL s (ts.take k))) (by rfl) (by have h := HOk.out; unfold OwnT at h; rw [← HLv.out] at h; exact (h.alloc _).drew)
              ⟨wr.heap.size, 0, none⟩ 1 1 [.string sk, .int .i64 nk, .int .i64 dk] (by rfl) (by rfl) (World.news_of_block (cs := #[.string sk, .int .i64 nk, .int .i64 dk]) (t := 60) (fr := (0, 0)) (heap_alloc_new wr _)) (by simp [Value.oneCell'])
              (by omega) (by have := HFL.out; rw [← HLv.out] at this; unfold maxLen; omega) (by have := HFL.out; rw [← HLv.out] at this; omega) (by simp; omega) (wr.heap.size + 1) (by simp) ?_; intro gg cg w5 hown1 hgrow hat hlt2; have q0 := (hgrow.cell_far ⟨w3.heap.size, 2, none⟩ (by simp; omega) e2).trans nc2; have q1 := (hgrow.frozen_far ⟨w3.heap.size, 2, none⟩ (by simp; omega) e2).trans nf2))
        all_goals
          have hOs := Lib.hid (AccRel.step (F := fun k => othL s (ts.take k)) (m := ts.length) (x := .int .i64 L) (y := .int .i64 V) ⟨sk, nk, dk⟩ (by omega) HFS.out HLv.out HOk.out HNv.out HBl.out HBk.out (by omega) (by omega) hown1 hgrow hat)
          clear hown1 hgrow hat
          go_wp2
          go_roundw
          case rel => exact hOs.out
          case measure => simp [intOf]; omega
    · obtain rfl : k = ts.length := by omega
      have n0 : wr.cell? ⟨w3.heap.size, 0, none⟩ = some (.int .i64 L) := HBl.out.cell 0
      have n1 : wr.cell? ⟨w3.heap.size, 1, none⟩ = some (.int .i64 V) := HBl.out.cell 1
      have n2 : wr.cell? ⟨w3.heap.size, 2, none⟩ = some (.slice av lv cv) := HBl.out.cell 2
      have bc := bcellB HBk.out
      have d0 : wr.cell? ⟨w.heap.size + 1, 0, none⟩ = some (.int .i64 x) := (bc.1 _ _ (by omega)).trans (by go_simp)
      have d1 : wr.cell? ⟨w.heap.size + 1, 1, none⟩ = some (.int .i64 d) := (bc.1 _ _ (by omega)).trans (by go_simp)
      have hE : othL s (ts.take ts.length) = othL s ts := by rw [List.take_length]
      have HO2 := Lib.hid (show OwnT wr (w.heap.size + 1 + 1 + 1) (.slice av lv cv) (othL s ts) from by rw [← hE]; exact HOk.out)
      have HL2 := Lib.hid (show lv = (othL s ts).length from by rw [← hE]; exact HLv.out)
      obtain ⟨a', c', he, hle, hN⟩ := HO2.out.newRow
      injection he with e1 e2 e3
      have HRw := Lib.hid (show Row wr av (othL s ts) from by rw [e1]; exact hN.row)
      have hcap : lv ≤ cv := by omega
      have hlv2 : lv ≤ 2097152 := by have h := HL2.out; have h2 : (othL s ts).length ≤ ts.length := List.length_filter_le _ _; omega
      clear bc hE hle hN e1 e2 e3
      go_wp2_with fail
      refine (l01Put_c av lv cv (othL s ts) HL2.out s x d ⟨(isF_abs HF.out).1, (isF_abs HF.out).2.1⟩ (fun t h => by have := isF_abs (term_isF HSer.out t (oth_mem h)); exact ⟨this.1, this.2.1⟩) hlv2 hcap wr HRw.out).mono ?_
      rw [HP.out]
      rintro e w6 ⟨a6, c6, rfl, hc6, hb6, hN6⟩
      have hz6 : wr.heap.size ≤ w6.heap.size := hb6.size
      have n0' : w6.cell? ⟨w3.heap.size, 0, none⟩ = some (.int .i64 L) := (hb6.cell (p := ⟨w3.heap.size, 0, none⟩) hzn).trans n0
      have n1' : w6.cell? ⟨w3.heap.size, 1, none⟩ = some (.int .i64 V) := (hb6.cell (p := ⟨w3.heap.size, 1, none⟩) hzn).trans n1
      have n2' : w6.cell? ⟨w3.heap.size, 2, none⟩ = some (.slice av lv cv) := (hb6.cell (p := ⟨w3.heap.size, 2, none⟩) hzn).trans n2
      have nf' : w6.frozen? ⟨w3.heap.size, 2, none⟩ = false := (hb6.frozen (p := ⟨w3.heap.size, 2, none⟩) hzn).trans (HBl.out.frozen 2)
      have HB6 := Lib.hid (HBk.out.trans (hb6.mono (by omega)))
      have HN6 := Lib.hid hN6
      have hz7 : w3.heap.size < w6.heap.size := by omega
      have hne : w3.heap.size ≠ w.heap.size + 1 + 1 := by omega
      obtain ⟨hc, hf⟩ := bcellB HB6.out
      have r0 : w6.cell? ⟨w.heap.size + 1 + 1, 0, none⟩ = some (.int .i64 0) := (hc _ _ (by omega)).trans (by go_simp)
      have r1 : w6.cell? ⟨w.heap.size + 1 + 1, 1, none⟩ = some (.int .i64 0) := (hc _ _ (by omega)).trans (by go_simp)
      have r2 : w6.cell? ⟨w.heap.size + 1 + 1, 2, none⟩ = some (.slice none 0 0) := (hc _ _ (by omega)).trans (by go_simp)
      have z0 : w6.frozen? ⟨w.heap.size + 1 + 1, 0, none⟩ = false := (hf _ _ (by omega)).trans (by go_simp)
      have z1 : w6.frozen? ⟨w.heap.size + 1 + 1, 1, none⟩ = false := (hf _ _ (by omega)).trans (by go_simp)
      have z2 : w6.frozen? ⟨w.heap.size + 1 + 1, 2, none⟩ = false := (hf _ _ (by omega)).trans (by go_simp)
      have HW := Lib.hid ((below3 w (.cells #[.int .i64 L, .int .i64 V, .slice (some ⟨g, 0, none⟩) ts.length ts.length] 28) (.cells #[.int .i64 x, .int .i64 d] 38) (.cells #[.int .i64 0, .int .i64 0, .slice none 0 0] 28)).trans (HB6.out.mono (by omega)))
      clear hc hf d0 d1 n0 n1 n2 x2 hb6 hN6
      go_wp2
      have hW := HW.out
      refine bodyPost_ret (v := .tuple #[.agg #[.int .i64 L, .int .i64 V, .slice a6 rs.length c6], .int .i64 0]) (by simp [results, Try.results16, go_sem, r0, r1, r2]) rfl ⟨a6, c6, rfl, by go_grown, ?_⟩
      exact ((HN6.out.far1 (i := 2) (x := .slice a6 rs.length c6) hzn).far3 (by omega)).mono (by omega) (by first | exact Nat.le_refl _ | simp)

set_option maxRecDepth 100000 in
set_option maxHeartbeats 8000000 in
theorem iPut_4 (rs : List Tm) (h1 : serB L V ts = true) (h2 : isF x d = true) (h3 : wordOk L V s = true) (hp : putL (othL s ts) ⟨s, x, d⟩ = some rs) (hrl : rs.length ≤ 4194304) (hrs : ∀ t ∈ rs, t.s.size ≤ 1048576) (hl : ts.length ≤ 1048576) (hs : ∀ i (h : i < ts.length), (ts[i]).s.size ≤ maxLen) (hsz : s.size ≤ maxLen) (hb : g < w.heap.size) (ht : TermsIn w g 0 ts) :
    Calls Try.prog 17 #[.agg #[.int .i64 L, .int .i64 V, .slice (some ⟨g, 0, none⟩) ts.length ts.length], .string s, .agg #[.int .i64 x, .int .i64 d]] w (SerPost L V rs 0 w) := by
  have HT := Lib.hid ht
  have HS := Lib.hid hs
  clear ht hs
  have h3' : (decide ((s.size : Int) ≤ V) && wordB L s.data.toList) = true := h3
  have HP := Lib.hid hp
  have HA := Lib.hid (asc_of_ser h1)
  have HRs := Lib.hid hrs
  have hd0 : x = 0 → d = 1 := fun e => by subst e; exact isF_zero h2
  have HD0 := Lib.hid hd0
  clear hp hrs hd0
  go_enter Try.func17, Try.ntmps17
  go_wp2_with fail
  refine (iIsSeries_c L V g 0 _ ts hl HS.out _ (by simp; omega) (HT.out.below (below3 w _ _ _) hb)).mono ?_
  rintro e w1 ⟨rfl, hb1⟩
  have HB1 := Lib.hid (show Below (w.heap.size + 1 + 1 + 1) (((w.alloc (.cells #[.int .i64 L, .int .i64 V, .slice (some ⟨g, 0, none⟩) ts.length ts.length] 28)).alloc (.cells #[.int .i64 x, .int .i64 d] 38)).alloc (.cells #[.int .i64 0, .int .i64 0, .slice none 0 0] 28)) w1 from by simpa using hb1)
  have hz1 : w.heap.size + 1 + 1 + 1 ≤ w1.heap.size := by have := hb1.size; simpa using this
  clear hb1
  rw [h1]
  obtain ⟨hc, hf⟩ := bcellB HB1.out
  have d0 : w1.cell? ⟨w.heap.size + 1, 0, none⟩ = some (.int .i64 x) := (hc _ _ (by omega)).trans (by go_simp)
  have d1 : w1.cell? ⟨w.heap.size + 1, 1, none⟩ = some (.int .i64 d) := (hc _ _ (by omega)).trans (by go_simp)
  clear hc hf
  go_wp2_with fail
  refine (isFraction_c x d _).mono ?_
  rw [h2]
  rintro e w2 ⟨rfl, hb2⟩
  have HB2 := Lib.hid (HB1.out.trans (hb2.mono (by omega)))
  have hz2 : w.heap.size + 1 + 1 + 1 ≤ w2.heap.size := by have := hb2.size; omega
  clear hb2
  clear d0 d1
  obtain ⟨hc, hf⟩ := bcellB HB2.out
  have x0 : w2.cell? ⟨w.heap.size, 0, none⟩ = some (.int .i64 L) := (hc _ _ (by omega)).trans (by go_simp)
  have x1 : w2.cell? ⟨w.heap.size, 1, none⟩ = some (.int .i64 V) := (hc _ _ (by omega)).trans (by go_simp)
  have x2 : w2.cell? ⟨w.heap.size, 2, none⟩ = some (.slice (some ⟨g, 0, none⟩) ts.length ts.length) := (hc _ _ (by omega)).trans (by go_simp)
  have d0 : w2.cell? ⟨w.heap.size + 1, 0, none⟩ = some (.int .i64 x) := (hc _ _ (by omega)).trans (by go_simp)
  have d1 : w2.cell? ⟨w.heap.size + 1, 1, none⟩ = some (.int .i64 d) := (hc _ _ (by omega)).trans (by go_simp)
  clear hc hf
  go_wp2_with fail
  refine (isWord_c L V s hsz _).mono ?_
  rw [h3']
  rintro e w3 ⟨rfl, rfl⟩
  have HW := Lib.hid ((below3 w (.cells #[.int .i64 L, .int .i64 V, .slice (some ⟨g, 0, none⟩) ts.length ts.length] 28) (.cells #[.int .i64 x, .int .i64 d] 38) (.cells #[.int .i64 0, .int .i64 0, .slice none 0 0] 28)).trans (HB2.out.mono (by omega)))
  have HT2 := Lib.hid (HT.out.below HW.out hb)
  have hne : w.heap.size + 1 + 1 ≠ w.heap.size := by omega
  have hne2 : w.heap.size + 1 + 1 ≠ w.heap.size + 1 := by omega
  go_wp2_with fail
  go_region_held3 (fun w' => w'.cell? ⟨w.heap.size, 0, none⟩ = some (.int .i64 L) ∧ w'.cell? ⟨w.heap.size, 1, none⟩ = some (.int .i64 V) ∧ w'.cell? ⟨w.heap.size, 2, none⟩ = some (.slice (some ⟨g, 0, none⟩) ts.length ts.length) ∧ w'.cell? ⟨w.heap.size + 1, 0, none⟩ = some (.int .i64 x) ∧ w'.cell? ⟨w.heap.size + 1, 1, none⟩ = some (.int .i64 d))
    (first | exact ⟨b0, b1, b2, b3, b4⟩ | exact ⟨a0, a1, a2, a3, a4⟩ | exact ⟨x0, x1, x2, d0, d1⟩ | (rw [far_three hne, far_three hne, far_three hne, far_three hne2, far_three hne2]; exact ⟨b0, b1, b2, b3, b4⟩) | go_keep)
    (first
      | (go_at_call 39; refine (replaceTerm_c g ts hl s x d HD0.out HA.out w2.drew (show g < w2.heap.size by omega) HT2.out).mono ?_; rintro e wa ⟨rs', hrs', ao, ac, rfl, hRw, hba0⟩; have hrr : rs' = rs := Option.some.inj (hrs'.symm.trans HP.out); have HRw := Lib.hid (show Row wa ao rs from hrr ▸ hRw); rw [hrr]; have hba : Below w2.heap.size w2 wa := ⟨hba0.os, hba0.tape, hba0.output, hba0.size, hba0.block⟩; have hBa := HB2.out.trans (hba.mono hz2); have a0 : wa.cell? ⟨w.heap.size, 0, none⟩ = some (.int .i64 L) := (hBa.cell (p := ⟨w.heap.size, 0, none⟩) (by show w.heap.size < _; omega)).trans (by go_simp); have a1 : wa.cell? ⟨w.heap.size, 1, none⟩ = some (.int .i64 V) := (hBa.cell (p := ⟨w.heap.size, 1, none⟩) (by show w.heap.size < _; omega)).trans (by go_simp); have a2 : wa.cell? ⟨w.heap.size, 2, none⟩ = some (.slice (some ⟨g, 0, none⟩) ts.length ts.length) := (hBa.cell (p := ⟨w.heap.size, 2, none⟩) (by show w.heap.size < _; omega)).trans (by go_simp); have a3 : wa.cell? ⟨w.heap.size + 1, 0, none⟩ = some (.int .i64 x) := (hBa.cell (p := ⟨w.heap.size + 1, 0, none⟩) (by show w.heap.size + 1 < _; omega)).trans (by go_simp); have a4 : wa.cell? ⟨w.heap.size + 1, 1, none⟩ = some (.int .i64 d) := (hBa.cell (p := ⟨w.heap.size + 1, 1, none⟩) (by show w.heap.size + 1 < _; omega)).trans (by go_simp); have HBa := Lib.hid hBa; clear hBa hRw hrs')
      | (go_at_call 25; refine (newSeries4_c L V ao ac rs hrl (fun i hi => HRs.out _ (List.getElem_mem hi)) wa HRw.out).mono ?_; rintro e wb ⟨gb, rfl, hbb, hgb, hMb, hTb⟩; have hBb := HBa.out.trans (hbb.mono (by have := hba.size; omega)); have b0 : wb.cell? ⟨w.heap.size, 0, none⟩ = some (.int .i64 L) := (hBb.cell (p := ⟨w.heap.size, 0, none⟩) (by show w.heap.size < _; omega)).trans (by go_simp); have b1 : wb.cell? ⟨w.heap.size, 1, none⟩ = some (.int .i64 V) := (hBb.cell (p := ⟨w.heap.size, 1, none⟩) (by show w.heap.size < _; omega)).trans (by go_simp); have b2 : wb.cell? ⟨w.heap.size, 2, none⟩ = some (.slice (some ⟨g, 0, none⟩) ts.length ts.length) := (hBb.cell (p := ⟨w.heap.size, 2, none⟩) (by show w.heap.size < _; omega)).trans (by go_simp); have b3 : wb.cell? ⟨w.heap.size + 1, 0, none⟩ = some (.int .i64 x) := (hBb.cell (p := ⟨w.heap.size + 1, 0, none⟩) (by show w.heap.size + 1 < _; omega)).trans (by go_simp); have b4 : wb.cell? ⟨w.heap.size + 1, 1, none⟩ = some (.int .i64 d) := (hBb.cell (p := ⟨w.heap.size + 1, 1, none⟩) (by show w.heap.size + 1 < _; omega)).trans (by go_simp); obtain ⟨hc, hf⟩ := bcellB hBb; have r0 : wb.cell? ⟨w.heap.size + 1 + 1, 0, none⟩ = some (.int .i64 0) := (hc _ _ (by omega)).trans (by go_simp); have r1 : wb.cell? ⟨w.heap.size + 1 + 1, 1, none⟩ = some (.int .i64 0) := (hc _ _ (by omega)).trans (by go_simp); have r2 : wb.cell? ⟨w.heap.size + 1 + 1, 2, none⟩ = some (.slice none 0 0) := (hc _ _ (by omega)).trans (by go_simp); have z0 : wb.frozen? ⟨w.heap.size + 1 + 1, 0, none⟩ = false := (hf _ _ (by omega)).trans (by go_simp); have z1 : wb.frozen? ⟨w.heap.size + 1 + 1, 1, none⟩ = false := (hf _ _ (by omega)).trans (by go_simp); have z2 : wb.frozen? ⟨w.heap.size + 1 + 1, 2, none⟩ = false := (hf _ _ (by omega)).trans (by go_simp); have HMb := Lib.hid hMb; have HTb := Lib.hid hTb; have HBb := Lib.hid hBb; clear hMb hTb hBb hc hf)
      | fail)
  all_goals
    have hza := hba.size
    have hW3 : Below w.heap.size w wb := (below3 w (.cells #[.int .i64 L, .int .i64 V, .slice (some ⟨g, 0, none⟩) ts.length ts.length] 28) (.cells #[.int .i64 x, .int .i64 d] 38) (.cells #[.int .i64 0, .int .i64 0, .slice none 0 0] 28)).trans (HBb.out.mono (by omega))
    go_wp2
    refine bodyPost_ret (v := .tuple #[.agg #[.int .i64 L, .int .i64 V, .slice (some ⟨gb, 0, none⟩) rs.length rs.length], .int .i64 0]) (by simp [results, Try.results17, go_sem, r0, r1, r2]) rfl ⟨_, _, rfl, by go_grown, ?_⟩
    exact ((NewRow.of_to (lo := wa.heap.size) hgb HMb.out HTb.out).far3 (by omega)).mono (by omega) (Nat.le_refl _)

end
end Go.Proofs.Ytbhbcjaaomdlaaa
