/-
  ReduceWord, InverseWord, MultiplyWords, CommutatorWord: contracts of the program and of the model.
-/
import Derived.Test.YtnhiceopgjfaaaaTolZ
namespace Go.Proofs.Ytnhiceopgjfaaaa
open Go.RowKit

theorem goodD_bd {d : Int} {z : List Int} (h : grpB d z = true) : ∀ x ∈ z, -3 ≤ x ∧ x ≤ 3 := fun x hx => by
  have g := grpB_true h
  have h1 := g.lo x hx
  have h2 := g.hi x hx
  have h3 := g.d3
  omega
theorem goodD_ok {d : Int} {a : Option Addr} {c : Nat} {z : List Int} {w : World} (h : grpB d z = true) (hr : IRow 0 w.heap.size w a z) : (Sl.mk a c z).Ok w :=
  ⟨hr, (grpB_true h).len, goodD_bd h⟩
theorem prd_new (w : World) (es : List El) (ty : TypeId) (hlen : es.length ≤ 4) (hok : ∀ e ∈ es, e.sl.Ok w) : PrdOk (w.alloc (.cells (es.map El.val).toArray ty)) w.heap.size es :=
  ⟨fun i hi => by rw [World.cell?_alloc_new]; simp [hi], by simp, hlen, fun e he => (hok e he).below (below1 _ _)⟩
theorem tol_new (w : World) (ls : List Sl) (ty : TypeId) (hlen : ls.length ≤ 4) (hok : ∀ s ∈ ls, s.Ok w) : TolOk (w.alloc (.cells (ls.map Sl.val).toArray ty)) w.heap.size ls :=
  ⟨fun i hi => by rw [World.cell?_alloc_new]; simp [hi], by simp, hlen, fun s hs => (hok s hs).below (below1 _ _)⟩

section
variable (d : Int) (a : Option Addr) (cap : Nat) (z : List Int) (hl : z.length ≤ 1048576) (w : World) (hr : IRow 0 w.heap.size w a z)
include hl hr
theorem sReduceWord_1 (h : grpB d z = false) : Calls Try.prog 17 #[.int .i64 d, .slice a z.length cap] w (NumsPost [] 2 w) := by
  have H := Lib.hid (l09Is_c 0 w.heap.size d a cap z hl w hr)
  have HB := Lib.hid h
  clear hr h
  go_enter Try.func17, Try.ntmps17
  go_wp2_with (go_at_call 40; refine H.out.mono ?_; rw [HB.out]; rintro e w' ⟨rfl, rfl⟩)
  go_ret2
  exact ⟨none, 0, rfl, Below.refl _ _, .inl rfl⟩
theorem iReduceWord_1 (h : grpB d z = false) : Calls Try.prog 18 #[.int .i64 d, .slice a z.length cap] w (NumsPost [] 2 w) := by
  have H := Lib.hid (iIsGroupWord_c 0 w.heap.size d a cap z hl w hr)
  have HB := Lib.hid h
  clear hr h
  go_enter Try.func18, Try.ntmps18
  go_wp2_with (go_at_call 15; refine H.out.mono ?_; rw [HB.out]; rintro e w' ⟨rfl, rfl⟩)
  go_ret2
  exact ⟨none, 0, rfl, Below.refl _ _, .inl rfl⟩
set_option maxHeartbeats 1000000 in
theorem sReduceWord_2 (h : grpB d z = true) : Calls Try.prog 17 #[.int .i64 d, .slice a z.length cap] w (NumsPost (redL z) 0 w) := by
  have H := Lib.hid (l09Is_c 0 w.heap.size d a cap z hl w hr)
  have hl12 := (grpB_true h).len
  have HC := Lib.hid (l09Reduce_c 0 w.heap.size a cap z (by omega) (goodD_bd h) w hr (Nat.le_refl _))
  have HB := Lib.hid h
  clear hr h
  go_enter Try.func17, Try.ntmps17
  go_wp2_with (go_at_call 40; refine H.out.mono ?_; rw [HB.out]; rintro e w' ⟨rfl, rfl⟩)
  refine HC.out.mono ?_
  rintro e w1 ⟨a1, c1, rfl, hb1, hN1⟩
  go_wp2
  go_ret2
  exact ⟨a1, c1, rfl, hb1, hN1⟩
set_option maxHeartbeats 1000000 in
theorem iReduceWord_2 (h : grpB d z = true) : Calls Try.prog 18 #[.int .i64 d, .slice a z.length cap] w (NumsPost (redL z) 0 w) := by
  have H := Lib.hid (iIsGroupWord_c 0 w.heap.size d a cap z hl w hr)
  have hl12 := (grpB_true h).len
  have HC := Lib.hid (redWord_c 0 w.heap.size a cap z (by omega) (goodD_bd h) w hr (Nat.le_refl _))
  have HB := Lib.hid h
  clear hr h
  go_enter Try.func18, Try.ntmps18
  go_wp2_with (go_at_call 15; refine H.out.mono ?_; rw [HB.out]; rintro e w' ⟨rfl, rfl⟩)
  refine HC.out.mono ?_
  rintro e w1 ⟨a1, c1, rfl, hb1, hN1⟩
  go_wp2
  go_ret2
  exact ⟨a1, c1, rfl, hb1, hN1⟩
end

section
variable (d : Int) (a : Option Addr) (cap : Nat) (z : List Int) (hl : z.length ≤ 1048576) (w : World) (hr : IRow 0 w.heap.size w a z)
include hl hr
theorem sInverseWord_1 (h : grpB d z = false) : Calls Try.prog 21 #[.int .i64 d, .slice a z.length cap] w (NumsPost [] 2 w) := by
  have H := Lib.hid (l09Is_c 0 w.heap.size d a cap z hl w hr)
  have HB := Lib.hid h
  clear hr h
  go_enter Try.func21, Try.ntmps21
  go_wp2_with (go_at_call 40; refine H.out.mono ?_; rw [HB.out]; rintro e w' ⟨rfl, rfl⟩)
  go_ret2
  exact ⟨none, 0, rfl, Below.refl _ _, .inl rfl⟩
theorem iInverseWord_1 (h : grpB d z = false) : Calls Try.prog 22 #[.int .i64 d, .slice a z.length cap] w (NumsPost [] 2 w) := by
  have H := Lib.hid (iIsGroupWord_c 0 w.heap.size d a cap z hl w hr)
  have HB := Lib.hid h
  clear hr h
  go_enter Try.func22, Try.ntmps22
  go_wp2_with (go_at_call 15; refine H.out.mono ?_; rw [HB.out]; rintro e w' ⟨rfl, rfl⟩)
  go_ret2
  exact ⟨none, 0, rfl, Below.refl _ _, .inl rfl⟩
set_option maxHeartbeats 1000000 in
theorem sInverseWord_2 (h : grpB d z = true) : Calls Try.prog 21 #[.int .i64 d, .slice a z.length cap] w (NumsPost (invL z) 0 w) := by
  have H := Lib.hid (l09Is_c 0 w.heap.size d a cap z hl w hr)
  have hl12 := (grpB_true h).len
  have HC := Lib.hid (l09Inverse_c 0 w.heap.size a cap z (by omega) (goodD_bd h) w hr (Nat.le_refl _))
  have HB := Lib.hid h
  clear hr h
  go_enter Try.func21, Try.ntmps21
  go_wp2_with (go_at_call 40; refine H.out.mono ?_; rw [HB.out]; rintro e w' ⟨rfl, rfl⟩)
  refine HC.out.mono ?_
  rintro e w1 ⟨a1, c1, rfl, hb1, hN1⟩
  go_wp2
  go_ret2
  exact ⟨a1, c1, rfl, hb1, hN1⟩
set_option maxHeartbeats 1000000 in
theorem iInverseWord_2 (h : grpB d z = true) : Calls Try.prog 22 #[.int .i64 d, .slice a z.length cap] w (NumsPost (invL z) 0 w) := by
  have H := Lib.hid (iIsGroupWord_c 0 w.heap.size d a cap z hl w hr)
  have hl12 := (grpB_true h).len
  have HC := Lib.hid (invNumbers_c 0 w.heap.size a cap z (by omega) (goodD_bd h) w hr (Nat.le_refl _))
  have HB := Lib.hid h
  clear hr h
  go_enter Try.func22, Try.ntmps22
  go_wp2_with (go_at_call 15; refine H.out.mono ?_; rw [HB.out]; rintro e w' ⟨rfl, rfl⟩)
  refine HC.out.mono ?_
  rintro e w1 ⟨a1, c1, rfl, hb1, hN1⟩
  go_wp2
  go_ret2
  exact ⟨a1, c1, rfl, hb1, hN1⟩
end

section
variable (d : Int) (a1 a2 : Option Addr) (c1 c2 : Nat) (v u : List Int) (hv : v.length ≤ 1048576) (hu : u.length ≤ 1048576) (w : World) (hr1 : IRow 0 w.heap.size w a1 v) (hr2 : IRow 0 w.heap.size w a2 u)
include hv hu hr1 hr2
theorem sMultiplyWords_1 (h : grpB d v = false) : Calls Try.prog 23 #[.int .i64 d, .slice a1 v.length c1, .slice a2 u.length c2] w (NumsPost [] 2 w) := by
  have H1 := Lib.hid (l09Is_c 0 w.heap.size d a1 c1 v hv w hr1)
  have H2 := Lib.hid (l09Is_c 0 w.heap.size d a2 c2 u hu w hr2)
  rw [h] at H1
  clear hr1 hr2 h H2
  go_enter Try.func23, Try.ntmps23
  go_wp2_with (go_at_call 40; refine H1.out.mono ?_; rintro e w' ⟨rfl, rfl⟩)
  go_ret2
  exact ⟨none, 0, rfl, Below.refl _ _, .inl rfl⟩
theorem sMultiplyWords_2 (h : grpB d v = true) (h2 : grpB d u = false) : Calls Try.prog 23 #[.int .i64 d, .slice a1 v.length c1, .slice a2 u.length c2] w (NumsPost [] 2 w) := by
  have H1 := Lib.hid (l09Is_c 0 w.heap.size d a1 c1 v hv w hr1)
  have H2 := Lib.hid (l09Is_c 0 w.heap.size d a2 c2 u hu w hr2)
  rw [h] at H1
  rw [h2] at H2
  clear hr1 hr2 h h2
  go_enter Try.func23, Try.ntmps23
  go_wp2_with (go_at_call 40; first | (with_reducible refine H1.out.mono ?_; rintro e w' ⟨rfl, rfl⟩) | (with_reducible refine H2.out.mono ?_; rintro e w' ⟨rfl, rfl⟩))
  go_ret2
  exact ⟨none, 0, rfl, Below.refl _ _, .inl rfl⟩
theorem iMultiplyWords_1 (h : grpB d v = false) : Calls Try.prog 24 #[.int .i64 d, .slice a1 v.length c1, .slice a2 u.length c2] w (NumsPost [] 2 w) := by
  have H1 := Lib.hid (iIsGroupWord_c 0 w.heap.size d a1 c1 v hv w hr1)
  have H2 := Lib.hid (iIsGroupWord_c 0 w.heap.size d a2 c2 u hu w hr2)
  rw [h] at H1
  clear hr1 hr2 h H2
  go_enter Try.func24, Try.ntmps24
  go_wp2_with (go_at_call 15; refine H1.out.mono ?_; rintro e w' ⟨rfl, rfl⟩)
  go_ret2
  exact ⟨none, 0, rfl, Below.refl _ _, .inl rfl⟩
theorem iMultiplyWords_2 (h : grpB d v = true) (h2 : grpB d u = false) : Calls Try.prog 24 #[.int .i64 d, .slice a1 v.length c1, .slice a2 u.length c2] w (NumsPost [] 2 w) := by
  have H1 := Lib.hid (iIsGroupWord_c 0 w.heap.size d a1 c1 v hv w hr1)
  have H2 := Lib.hid (iIsGroupWord_c 0 w.heap.size d a2 c2 u hu w hr2)
  rw [h] at H1
  rw [h2] at H2
  clear hr1 hr2 h h2
  go_enter Try.func24, Try.ntmps24
  go_wp2_with (go_at_call 15; first | (with_reducible refine H1.out.mono ?_; rintro e w' ⟨rfl, rfl⟩) | (with_reducible refine H2.out.mono ?_; rintro e w' ⟨rfl, rfl⟩))
  go_ret2
  exact ⟨none, 0, rfl, Below.refl _ _, .inl rfl⟩
theorem sCommutatorWord_1 (h : grpB d v = false) : Calls Try.prog 25 #[.int .i64 d, .slice a1 v.length c1, .slice a2 u.length c2] w (NumsPost [] 2 w) := by
  have H1 := Lib.hid (l09Is_c 0 w.heap.size d a1 c1 v hv w hr1)
  have H2 := Lib.hid (l09Is_c 0 w.heap.size d a2 c2 u hu w hr2)
  rw [h] at H1
  clear hr1 hr2 h H2
  go_enter Try.func25, Try.ntmps25
  go_wp2_with (go_at_call 40; refine H1.out.mono ?_; rintro e w' ⟨rfl, rfl⟩)
  go_ret2
  exact ⟨none, 0, rfl, Below.refl _ _, .inl rfl⟩
theorem sCommutatorWord_2 (h : grpB d v = true) (h2 : grpB d u = false) : Calls Try.prog 25 #[.int .i64 d, .slice a1 v.length c1, .slice a2 u.length c2] w (NumsPost [] 2 w) := by
  have H1 := Lib.hid (l09Is_c 0 w.heap.size d a1 c1 v hv w hr1)
  have H2 := Lib.hid (l09Is_c 0 w.heap.size d a2 c2 u hu w hr2)
  rw [h] at H1
  rw [h2] at H2
  clear hr1 hr2 h h2
  go_enter Try.func25, Try.ntmps25
  go_wp2_with (go_at_call 40; first | (with_reducible refine H1.out.mono ?_; rintro e w' ⟨rfl, rfl⟩) | (with_reducible refine H2.out.mono ?_; rintro e w' ⟨rfl, rfl⟩))
  go_ret2
  exact ⟨none, 0, rfl, Below.refl _ _, .inl rfl⟩
theorem iCommutatorWord_1 (h : grpB d v = false) : Calls Try.prog 26 #[.int .i64 d, .slice a1 v.length c1, .slice a2 u.length c2] w (NumsPost [] 2 w) := by
  have H1 := Lib.hid (iIsGroupWord_c 0 w.heap.size d a1 c1 v hv w hr1)
  have H2 := Lib.hid (iIsGroupWord_c 0 w.heap.size d a2 c2 u hu w hr2)
  rw [h] at H1
  clear hr1 hr2 h H2
  go_enter Try.func26, Try.ntmps26
  go_wp2_with (go_at_call 15; refine H1.out.mono ?_; rintro e w' ⟨rfl, rfl⟩)
  go_ret2
  exact ⟨none, 0, rfl, Below.refl _ _, .inl rfl⟩
theorem iCommutatorWord_2 (h : grpB d v = true) (h2 : grpB d u = false) : Calls Try.prog 26 #[.int .i64 d, .slice a1 v.length c1, .slice a2 u.length c2] w (NumsPost [] 2 w) := by
  have H1 := Lib.hid (iIsGroupWord_c 0 w.heap.size d a1 c1 v hv w hr1)
  have H2 := Lib.hid (iIsGroupWord_c 0 w.heap.size d a2 c2 u hu w hr2)
  rw [h] at H1
  rw [h2] at H2
  clear hr1 hr2 h h2
  go_enter Try.func26, Try.ntmps26
  go_wp2_with (go_at_call 15; first | (with_reducible refine H1.out.mono ?_; rintro e w' ⟨rfl, rfl⟩) | (with_reducible refine H2.out.mono ?_; rintro e w' ⟨rfl, rfl⟩))
  go_ret2
  exact ⟨none, 0, rfl, Below.refl _ _, .inl rfl⟩
theorem sAreEqualInGroup_1 (h : grpB d v = false) : Calls Try.prog 34 #[.int .i64 d, .slice a1 v.length c1, .slice a2 u.length c2] w fun e w' => e = .returned (.tuple #[.bool false, .int .i64 2]) ∧ Below w.heap.size w w' := by
  have H1 := Lib.hid (l09Is_c 0 w.heap.size d a1 c1 v hv w hr1)
  have H2 := Lib.hid (l09Is_c 0 w.heap.size d a2 c2 u hu w hr2)
  rw [h] at H1
  clear hr1 hr2 h H2
  go_enter Try.func34, Try.ntmps34
  go_wp2_with (go_at_call 40; refine H1.out.mono ?_; rintro e w' ⟨rfl, rfl⟩)
  go_ret2
  exact ⟨rfl, Below.refl _ _⟩
theorem sAreEqualInGroup_2 (h : grpB d v = true) (h2 : grpB d u = false) : Calls Try.prog 34 #[.int .i64 d, .slice a1 v.length c1, .slice a2 u.length c2] w fun e w' => e = .returned (.tuple #[.bool false, .int .i64 2]) ∧ Below w.heap.size w w' := by
  have H1 := Lib.hid (l09Is_c 0 w.heap.size d a1 c1 v hv w hr1)
  have H2 := Lib.hid (l09Is_c 0 w.heap.size d a2 c2 u hu w hr2)
  rw [h] at H1
  rw [h2] at H2
  clear hr1 hr2 h h2
  go_enter Try.func34, Try.ntmps34
  go_wp2_with (go_at_call 40; first | (with_reducible refine H1.out.mono ?_; rintro e w' ⟨rfl, rfl⟩) | (with_reducible refine H2.out.mono ?_; rintro e w' ⟨rfl, rfl⟩))
  go_ret2
  exact ⟨rfl, Below.refl _ _⟩
theorem iAreEqualInGroup_1 (h : grpB d v = false) : Calls Try.prog 35 #[.int .i64 d, .slice a1 v.length c1, .slice a2 u.length c2] w fun e w' => e = .returned (.tuple #[.bool false, .int .i64 2]) ∧ Below w.heap.size w w' := by
  have H1 := Lib.hid (iIsGroupWord_c 0 w.heap.size d a1 c1 v hv w hr1)
  have H2 := Lib.hid (iIsGroupWord_c 0 w.heap.size d a2 c2 u hu w hr2)
  rw [h] at H1
  clear hr1 hr2 h H2
  go_enter Try.func35, Try.ntmps35
  go_wp2_with (go_at_call 15; refine H1.out.mono ?_; rintro e w' ⟨rfl, rfl⟩)
  go_ret2
  exact ⟨rfl, Below.refl _ _⟩
theorem iAreEqualInGroup_2 (h : grpB d v = true) (h2 : grpB d u = false) : Calls Try.prog 35 #[.int .i64 d, .slice a1 v.length c1, .slice a2 u.length c2] w fun e w' => e = .returned (.tuple #[.bool false, .int .i64 2]) ∧ Below w.heap.size w w' := by
  have H1 := Lib.hid (iIsGroupWord_c 0 w.heap.size d a1 c1 v hv w hr1)
  have H2 := Lib.hid (iIsGroupWord_c 0 w.heap.size d a2 c2 u hu w hr2)
  rw [h] at H1
  rw [h2] at H2
  clear hr1 hr2 h h2
  go_enter Try.func35, Try.ntmps35
  go_wp2_with (go_at_call 15; first | (with_reducible refine H1.out.mono ?_; rintro e w' ⟨rfl, rfl⟩) | (with_reducible refine H2.out.mono ?_; rintro e w' ⟨rfl, rfl⟩))
  go_ret2
  exact ⟨rfl, Below.refl _ _⟩
set_option maxHeartbeats 1000000 in
theorem sMultiplyWords_3 (h : grpB d v = true) (h2 : grpB d u = true) (hd : (redL (v ++ u)).length ≤ 12) : Calls Try.prog 23 #[.int .i64 d, .slice a1 v.length c1, .slice a2 u.length c2] w (NumsPost (redL (v ++ u)) 0 w) := by
  have H1 := Lib.hid (l09Is_c 0 w.heap.size d a1 c1 v hv w hr1)
  have H2 := Lib.hid (l09Is_c 0 w.heap.size d a2 c2 u hu w hr2)
  rw [h] at H1
  rw [h2] at H2
  have HK1 := Lib.hid (goodD_ok (c := c1) h hr1)
  have HK2 := Lib.hid (goodD_ok (c := c2) h2 hr2)
  have HD := Lib.hid hd
  clear hr1 hr2 h h2 hd
  go_enter Try.func23, Try.ntmps23
  go_wp2_with (go_at_call 40; first | (with_reducible refine H1.out.mono ?_; rintro e w' ⟨rfl, rfl⟩) | (with_reducible refine H2.out.mono ?_; rintro e w' ⟨rfl, rfl⟩))
  have HP := tol_new w [⟨a1, c1, v⟩, ⟨a2, c2, u⟩] 22 (by simp) (fun e he => by
    simp only [List.mem_cons, List.not_mem_nil, or_false] at he
    rcases he with rfl | rfl
    · exact HK1.out
    · exact HK2.out)
  have HA := Lib.hid (told_1 w.heap.size 2 2 _ _ rfl HP (redL (v ++ u)) (by simp [allS]) (by simpa [allS] using HD.out))
  clear HP
  refine HA.out.mono ?_
  rintro e w9 ⟨a9, c9, rfl, hb9, hN9⟩
  have HB9 := Lib.hid ((below1 _ _).trans (hb9.mono (by simp)))
  have HN9 := Lib.hid (hN9.mono (lo' := w.heap.size) (by simp) (Nat.le_refl _))
  clear hb9 hN9
  go_wp2
  go_ret2
  exact ⟨a9, c9, rfl, HB9.out, HN9.out⟩
set_option maxHeartbeats 1000000 in
theorem iMultiplyWords_3 (h : grpB d v = true) (h2 : grpB d u = true) (hd : (redL (v ++ u)).length ≤ 12) : Calls Try.prog 24 #[.int .i64 d, .slice a1 v.length c1, .slice a2 u.length c2] w (NumsPost (redL (v ++ u)) 0 w) := by
  have H1 := Lib.hid (iIsGroupWord_c 0 w.heap.size d a1 c1 v hv w hr1)
  have H2 := Lib.hid (iIsGroupWord_c 0 w.heap.size d a2 c2 u hu w hr2)
  rw [h] at H1
  rw [h2] at H2
  have HK1 := Lib.hid (goodD_ok (c := c1) h hr1)
  have HK2 := Lib.hid (goodD_ok (c := c2) h2 hr2)
  have HD := Lib.hid hd
  clear hr1 hr2 h h2 hd
  go_enter Try.func24, Try.ntmps24
  go_wp2_with (go_at_call 15; first | (with_reducible refine H1.out.mono ?_; rintro e w' ⟨rfl, rfl⟩) | (with_reducible refine H2.out.mono ?_; rintro e w' ⟨rfl, rfl⟩))
  have HP := prd_new w ([.word ⟨a1, c1, v⟩, .word ⟨a2, c2, u⟩] : List El) 47 (by simp) (fun e he => by
    simp only [List.mem_cons, List.not_mem_nil, or_false] at he
    rcases he with rfl | rfl
    · exact HK1.out
    · exact HK2.out
  )
  have HA := Lib.hid (shortWord_1 w.heap.size 2 2 _ _ rfl HP (by simpa [allN, El.num] using HD.out))
  simp only [allN, List.flatMap_cons, List.flatMap_nil, El.num, List.append_nil] at HA
  clear HP
  refine HA.out.mono ?_
  rintro e w9 ⟨a9, c9, rfl, hb9, hN9⟩
  have HB9 := Lib.hid ((below1 _ _).trans (hb9.mono (by simp)))
  have HN9 := Lib.hid (hN9.mono (lo' := w.heap.size) (by simp) (Nat.le_refl _))
  clear hb9 hN9
  go_wp2
  go_ret2
  exact ⟨a9, c9, rfl, HB9.out, HN9.out⟩
set_option maxHeartbeats 1000000 in
theorem sMultiplyWords_4 (h : grpB d v = true) (h2 : grpB d u = true) (hd : ¬ (redL (v ++ u)).length ≤ 12) : Calls Try.prog 23 #[.int .i64 d, .slice a1 v.length c1, .slice a2 u.length c2] w (NumsPost ([]) 3 w) := by
  have H1 := Lib.hid (l09Is_c 0 w.heap.size d a1 c1 v hv w hr1)
  have H2 := Lib.hid (l09Is_c 0 w.heap.size d a2 c2 u hu w hr2)
  rw [h] at H1
  rw [h2] at H2
  have HK1 := Lib.hid (goodD_ok (c := c1) h hr1)
  have HK2 := Lib.hid (goodD_ok (c := c2) h2 hr2)
  have HD := Lib.hid hd
  clear hr1 hr2 h h2 hd
  go_enter Try.func23, Try.ntmps23
  go_wp2_with (go_at_call 40; first | (with_reducible refine H1.out.mono ?_; rintro e w' ⟨rfl, rfl⟩) | (with_reducible refine H2.out.mono ?_; rintro e w' ⟨rfl, rfl⟩))
  have HP := tol_new w [⟨a1, c1, v⟩, ⟨a2, c2, u⟩] 22 (by simp) (fun e he => by
    simp only [List.mem_cons, List.not_mem_nil, or_false] at he
    rcases he with rfl | rfl
    · exact HK1.out
    · exact HK2.out)
  have HA := Lib.hid (told_2 w.heap.size 2 2 _ _ rfl HP (by simpa [allS] using HD.out))
  clear HP
  refine HA.out.mono ?_
  rintro e w9 ⟨a9, c9, rfl, hb9, hN9⟩
  have HB9 := Lib.hid ((below1 _ _).trans (hb9.mono (by simp)))
  have HN9 := Lib.hid (hN9.mono (lo' := w.heap.size) (by simp) (Nat.le_refl _))
  clear hb9 hN9
  go_wp2
  go_ret2
  exact ⟨a9, c9, rfl, HB9.out, HN9.out⟩
set_option maxHeartbeats 1000000 in
theorem iMultiplyWords_4 (h : grpB d v = true) (h2 : grpB d u = true) (hd : ¬ (redL (v ++ u)).length ≤ 12) : Calls Try.prog 24 #[.int .i64 d, .slice a1 v.length c1, .slice a2 u.length c2] w (NumsPost ([]) 3 w) := by
  have H1 := Lib.hid (iIsGroupWord_c 0 w.heap.size d a1 c1 v hv w hr1)
  have H2 := Lib.hid (iIsGroupWord_c 0 w.heap.size d a2 c2 u hu w hr2)
  rw [h] at H1
  rw [h2] at H2
  have HK1 := Lib.hid (goodD_ok (c := c1) h hr1)
  have HK2 := Lib.hid (goodD_ok (c := c2) h2 hr2)
  have HD := Lib.hid hd
  clear hr1 hr2 h h2 hd
  go_enter Try.func24, Try.ntmps24
  go_wp2_with (go_at_call 15; first | (with_reducible refine H1.out.mono ?_; rintro e w' ⟨rfl, rfl⟩) | (with_reducible refine H2.out.mono ?_; rintro e w' ⟨rfl, rfl⟩))
  have HP := prd_new w ([.word ⟨a1, c1, v⟩, .word ⟨a2, c2, u⟩] : List El) 47 (by simp) (fun e he => by
    simp only [List.mem_cons, List.not_mem_nil, or_false] at he
    rcases he with rfl | rfl
    · exact HK1.out
    · exact HK2.out
  )
  have HA := Lib.hid (shortWord_2 w.heap.size 2 2 _ _ rfl HP (by simpa [allN, El.num] using HD.out))
  clear HP
  refine HA.out.mono ?_
  rintro e w9 ⟨a9, c9, rfl, hb9, hN9⟩
  have HB9 := Lib.hid ((below1 _ _).trans (hb9.mono (by simp)))
  have HN9 := Lib.hid (hN9.mono (lo' := w.heap.size) (by simp) (Nat.le_refl _))
  clear hb9 hN9
  go_wp2
  go_ret2
  exact ⟨a9, c9, rfl, HB9.out, HN9.out⟩
set_option maxHeartbeats 1000000 in
theorem sCommutatorWord_3 (h : grpB d v = true) (h2 : grpB d u = true) (hd : (redL (invL v ++ (invL u ++ (v ++ u)))).length ≤ 12) : Calls Try.prog 25 #[.int .i64 d, .slice a1 v.length c1, .slice a2 u.length c2] w (NumsPost (redL (invL v ++ (invL u ++ (v ++ u)))) 0 w) := by
  have H1 := Lib.hid (l09Is_c 0 w.heap.size d a1 c1 v hv w hr1)
  have H2 := Lib.hid (l09Is_c 0 w.heap.size d a2 c2 u hu w hr2)
  rw [h] at H1
  rw [h2] at H2
  have HK1 := Lib.hid (goodD_ok (c := c1) h hr1)
  have HK2 := Lib.hid (goodD_ok (c := c2) h2 hr2)
  have HD := Lib.hid hd
  clear hr1 hr2 h h2 hd
  go_enter Try.func25, Try.ntmps25
  go_wp2_with (go_at_call 40; first | (with_reducible refine H1.out.mono ?_; rintro e w' ⟨rfl, rfl⟩) | (with_reducible refine H2.out.mono ?_; rintro e w' ⟨rfl, rfl⟩))
  refine (l09Inverse_c 0 w.heap.size a1 c1 v (by have := HK1.out.len; simp only at this; omega) HK1.out.bd w HK1.out.row (Nat.le_refl _)).mono ?_
  rintro e w5 ⟨a5, c5, rfl, hb5, hN5⟩
  have hz5 := hb5.size
  have HK5 := Lib.hid (show (Sl.mk a5 c5 (invL v)).Ok w5 from ⟨hN5.row.mono (Nat.zero_le _) (Nat.le_refl _), by simp only [invL_length]; exact HK1.out.len, invL_bd HK1.out.bd⟩)
  have HK15 := Lib.hid (HK1.out.below hb5)
  have HK25 := Lib.hid (HK2.out.below hb5)
  have HB5 := Lib.hid hb5
  clear hb5 hN5 HK1 HK2
  go_wp2_with fail
  refine (l09Inverse_c 0 w5.heap.size a2 c2 u (by have := HK25.out.len; simp only at this; omega) HK25.out.bd w5 HK25.out.row (Nat.le_refl _)).mono ?_
  rintro e w6 ⟨a6, c6, rfl, hb6, hN6⟩
  have hz6 := hb6.size
  have HK6 := Lib.hid (show (Sl.mk a6 c6 (invL u)).Ok w6 from ⟨hN6.row.mono (Nat.zero_le _) (Nat.le_refl _), by simp only [invL_length]; exact HK25.out.len, invL_bd HK25.out.bd⟩)
  have HK16 := Lib.hid (HK15.out.below hb6)
  have HK26 := Lib.hid (HK25.out.below hb6)
  have HK56 := Lib.hid (HK5.out.below hb6)
  have HB6 := Lib.hid (HB5.out.trans (hb6.mono hz5))
  clear hb6 hN6 HK15 HK25 HK5 HB5
  go_wp2_with fail
  have HP := tol_new w6 [⟨a5, c5, invL v⟩, ⟨a6, c6, invL u⟩, ⟨a1, c1, v⟩, ⟨a2, c2, u⟩] 22 (by simp) (fun e he => by
    simp only [List.mem_cons, List.not_mem_nil, or_false] at he
    rcases he with rfl | rfl | rfl | rfl
    · exact HK56.out
    · exact HK6.out
    · exact HK16.out
    · exact HK26.out)
  have HA := Lib.hid (told_1 w6.heap.size 4 4 _ _ rfl HP (redL (invL v ++ (invL u ++ (v ++ u)))) (by simp [allS]) (by simpa [allS] using HD.out))
  clear HP
  refine HA.out.mono ?_
  rintro e w9 ⟨a9, c9, rfl, hb9, hN9⟩
  have HB9 := Lib.hid (HB6.out.trans (((below1 w6 _).trans (hb9.mono (by simp))).mono (Nat.le_trans hz5 hz6)))
  have HN9 := Lib.hid (hN9.mono (lo' := w.heap.size) (by simp; omega) (Nat.le_refl _))
  clear hb9 hN9
  go_wp2
  go_ret2
  exact ⟨a9, c9, rfl, HB9.out, HN9.out⟩
set_option maxHeartbeats 1000000 in
theorem iCommutatorWord_3 (h : grpB d v = true) (h2 : grpB d u = true) (hd : (redL (invL v ++ (invL u ++ (v ++ u)))).length ≤ 12) : Calls Try.prog 26 #[.int .i64 d, .slice a1 v.length c1, .slice a2 u.length c2] w (NumsPost (redL (invL v ++ (invL u ++ (v ++ u)))) 0 w) := by
  have H1 := Lib.hid (iIsGroupWord_c 0 w.heap.size d a1 c1 v hv w hr1)
  have H2 := Lib.hid (iIsGroupWord_c 0 w.heap.size d a2 c2 u hu w hr2)
  rw [h] at H1
  rw [h2] at H2
  have HK1 := Lib.hid (goodD_ok (c := c1) h hr1)
  have HK2 := Lib.hid (goodD_ok (c := c2) h2 hr2)
  have HD := Lib.hid hd
  clear hr1 hr2 h h2 hd
  go_enter Try.func26, Try.ntmps26
  go_wp2_with (go_at_call 15; first | (with_reducible refine H1.out.mono ?_; rintro e w' ⟨rfl, rfl⟩) | (with_reducible refine H2.out.mono ?_; rintro e w' ⟨rfl, rfl⟩))
  have HP := prd_new w ([.inv ⟨a1, c1, v⟩, .inv ⟨a2, c2, u⟩, .word ⟨a1, c1, v⟩, .word ⟨a2, c2, u⟩] : List El) 47 (by simp) (fun e he => by
    simp only [List.mem_cons, List.not_mem_nil, or_false] at he
    rcases he with rfl | rfl | rfl | rfl
    · exact HK1.out
    · exact HK2.out
    · exact HK1.out
    · exact HK2.out
  )
  have HA := Lib.hid (shortWord_1 w.heap.size 4 4 _ _ rfl HP (by simpa [allN, El.num] using HD.out))
  simp only [allN, List.flatMap_cons, List.flatMap_nil, El.num, List.append_nil] at HA
  clear HP
  refine HA.out.mono ?_
  rintro e w9 ⟨a9, c9, rfl, hb9, hN9⟩
  have HB9 := Lib.hid ((below1 _ _).trans (hb9.mono (by simp)))
  have HN9 := Lib.hid (hN9.mono (lo' := w.heap.size) (by simp) (Nat.le_refl _))
  clear hb9 hN9
  go_wp2
  go_ret2
  exact ⟨a9, c9, rfl, HB9.out, HN9.out⟩
set_option maxHeartbeats 1000000 in
theorem sCommutatorWord_4 (h : grpB d v = true) (h2 : grpB d u = true) (hd : ¬ (redL (invL v ++ (invL u ++ (v ++ u)))).length ≤ 12) : Calls Try.prog 25 #[.int .i64 d, .slice a1 v.length c1, .slice a2 u.length c2] w (NumsPost ([]) 3 w) := by
  have H1 := Lib.hid (l09Is_c 0 w.heap.size d a1 c1 v hv w hr1)
  have H2 := Lib.hid (l09Is_c 0 w.heap.size d a2 c2 u hu w hr2)
  rw [h] at H1
  rw [h2] at H2
  have HK1 := Lib.hid (goodD_ok (c := c1) h hr1)
  have HK2 := Lib.hid (goodD_ok (c := c2) h2 hr2)
  have HD := Lib.hid hd
  clear hr1 hr2 h h2 hd
  go_enter Try.func25, Try.ntmps25
  go_wp2_with (go_at_call 40; first | (with_reducible refine H1.out.mono ?_; rintro e w' ⟨rfl, rfl⟩) | (with_reducible refine H2.out.mono ?_; rintro e w' ⟨rfl, rfl⟩))
  refine (l09Inverse_c 0 w.heap.size a1 c1 v (by have := HK1.out.len; simp only at this; omega) HK1.out.bd w HK1.out.row (Nat.le_refl _)).mono ?_
  rintro e w5 ⟨a5, c5, rfl, hb5, hN5⟩
  have hz5 := hb5.size
  have HK5 := Lib.hid (show (Sl.mk a5 c5 (invL v)).Ok w5 from ⟨hN5.row.mono (Nat.zero_le _) (Nat.le_refl _), by simp only [invL_length]; exact HK1.out.len, invL_bd HK1.out.bd⟩)
  have HK15 := Lib.hid (HK1.out.below hb5)
  have HK25 := Lib.hid (HK2.out.below hb5)
  have HB5 := Lib.hid hb5
  clear hb5 hN5 HK1 HK2
  go_wp2_with fail
  refine (l09Inverse_c 0 w5.heap.size a2 c2 u (by have := HK25.out.len; simp only at this; omega) HK25.out.bd w5 HK25.out.row (Nat.le_refl _)).mono ?_
  rintro e w6 ⟨a6, c6, rfl, hb6, hN6⟩
  have hz6 := hb6.size
  have HK6 := Lib.hid (show (Sl.mk a6 c6 (invL u)).Ok w6 from ⟨hN6.row.mono (Nat.zero_le _) (Nat.le_refl _), by simp only [invL_length]; exact HK25.out.len, invL_bd HK25.out.bd⟩)
  have HK16 := Lib.hid (HK15.out.below hb6)
  have HK26 := Lib.hid (HK25.out.below hb6)
  have HK56 := Lib.hid (HK5.out.below hb6)
  have HB6 := Lib.hid (HB5.out.trans (hb6.mono hz5))
  clear hb6 hN6 HK15 HK25 HK5 HB5
  go_wp2_with fail
  have HP := tol_new w6 [⟨a5, c5, invL v⟩, ⟨a6, c6, invL u⟩, ⟨a1, c1, v⟩, ⟨a2, c2, u⟩] 22 (by simp) (fun e he => by
    simp only [List.mem_cons, List.not_mem_nil, or_false] at he
    rcases he with rfl | rfl | rfl | rfl
    · exact HK56.out
    · exact HK6.out
    · exact HK16.out
    · exact HK26.out)
  have HA := Lib.hid (told_2 w6.heap.size 4 4 _ _ rfl HP (by simpa [allS] using HD.out))
  clear HP
  refine HA.out.mono ?_
  rintro e w9 ⟨a9, c9, rfl, hb9, hN9⟩
  have HB9 := Lib.hid (HB6.out.trans (((below1 w6 _).trans (hb9.mono (by simp))).mono (Nat.le_trans hz5 hz6)))
  have HN9 := Lib.hid (hN9.mono (lo' := w.heap.size) (by simp; omega) (Nat.le_refl _))
  clear hb9 hN9
  go_wp2
  go_ret2
  exact ⟨a9, c9, rfl, HB9.out, HN9.out⟩
set_option maxHeartbeats 1000000 in
theorem iCommutatorWord_4 (h : grpB d v = true) (h2 : grpB d u = true) (hd : ¬ (redL (invL v ++ (invL u ++ (v ++ u)))).length ≤ 12) : Calls Try.prog 26 #[.int .i64 d, .slice a1 v.length c1, .slice a2 u.length c2] w (NumsPost ([]) 3 w) := by
  have H1 := Lib.hid (iIsGroupWord_c 0 w.heap.size d a1 c1 v hv w hr1)
  have H2 := Lib.hid (iIsGroupWord_c 0 w.heap.size d a2 c2 u hu w hr2)
  rw [h] at H1
  rw [h2] at H2
  have HK1 := Lib.hid (goodD_ok (c := c1) h hr1)
  have HK2 := Lib.hid (goodD_ok (c := c2) h2 hr2)
  have HD := Lib.hid hd
  clear hr1 hr2 h h2 hd
  go_enter Try.func26, Try.ntmps26
  go_wp2_with (go_at_call 15; first | (with_reducible refine H1.out.mono ?_; rintro e w' ⟨rfl, rfl⟩) | (with_reducible refine H2.out.mono ?_; rintro e w' ⟨rfl, rfl⟩))
  have HP := prd_new w ([.inv ⟨a1, c1, v⟩, .inv ⟨a2, c2, u⟩, .word ⟨a1, c1, v⟩, .word ⟨a2, c2, u⟩] : List El) 47 (by simp) (fun e he => by
    simp only [List.mem_cons, List.not_mem_nil, or_false] at he
    rcases he with rfl | rfl | rfl | rfl
    · exact HK1.out
    · exact HK2.out
    · exact HK1.out
    · exact HK2.out
  )
  have HA := Lib.hid (shortWord_2 w.heap.size 4 4 _ _ rfl HP (by simpa [allN, El.num] using HD.out))
  clear HP
  refine HA.out.mono ?_
  rintro e w9 ⟨a9, c9, rfl, hb9, hN9⟩
  have HB9 := Lib.hid ((below1 _ _).trans (hb9.mono (by simp)))
  have HN9 := Lib.hid (hN9.mono (lo' := w.heap.size) (by simp) (Nat.le_refl _))
  clear hb9 hN9
  go_wp2
  go_ret2
  exact ⟨a9, c9, rfl, HB9.out, HN9.out⟩
end
end Go.Proofs.Ytnhiceopgjfaaaa
