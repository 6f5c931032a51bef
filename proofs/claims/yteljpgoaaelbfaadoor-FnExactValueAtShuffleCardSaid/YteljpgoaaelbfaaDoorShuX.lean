/-
  ShuffleWords where it gives no words: contracts of both sides.
-/
import Derived.Test.YteljpgoaaelbfaaDoorShuI
import Derived.Test.YteljpgoaaelbfaaDoorShuW
import Derived.Test.YteljpgoaaelbfaaDoorImpIs
import Derived.Test.YteljpgoaaelbfaaDoorRes
namespace Go.Proofs.YteljpgoaaelbfaaDoor
open Go.RowKit
set_option linter.unusedVariables false

/-- the code of ShuffleWords -/
def swC (d n : Int) (v w : ByteArray) : Int := if shapeB d n && wordB d v.data.toList && wordB d w.data.toList && decide ((v.size : Int) ≤ n) && decide ((w.size : Int) ≤ n) then 0 else 2
set_option maxRecDepth 100000 in
theorem sShw_0 (d n : Int) (v w : ByteArray) (hv : v.size ≤ maxLen) (hw : w.size ≤ maxLen) (hsh : shapeB d n = false) (W : World) :
    Calls Tryd.prog 5 #[.int .i64 d, .int .i64 n, .string v, .string w] W (SerPost 0 0 [] 2 W) := by
  have Hsh := Lib.hid hsh
  clear hv hw hsh
  go_enter Tryd.func5, Tryd.ntmps5
  go_wp2_with (first | (go_at_call 15; refine (l01Sizes_c _ _ _).mono ?_; rw [Hsh.out]; rintro e w' ⟨rfl, rfl⟩))
  exact bodyPost_ret (v := .tuple #[.agg #[.int .i64 0, .int .i64 0, .slice none 0 0], .int .i64 2]) (by simp [results, Tryd.results5, go_sem]) rfl (SerPost.err 2 rfl (by go_grown))
set_option maxRecDepth 100000 in
theorem sShw_1 (d n : Int) (v w : ByteArray) (hv : v.size ≤ maxLen) (hw : w.size ≤ maxLen) (hsh : shapeB d n = true) (hwv : wordB d v.data.toList = false) (W : World) :
    Calls Tryd.prog 5 #[.int .i64 d, .int .i64 n, .string v, .string w] W (SerPost 0 0 [] 2 W) := by
  have Hsh := Lib.hid hsh
  have Hwv := Lib.hid hwv
  have C1 := Lib.hid (fun W => l01Word_c d v hv W)
  rw [Hwv.out] at C1
  clear hv hw hsh hwv
  go_enter Tryd.func5, Tryd.ntmps5
  go_wp2_with (first | (go_at_call 15; refine (l01Sizes_c _ _ _).mono ?_; rw [Hsh.out]; rintro e w' ⟨rfl, rfl⟩) | (go_at_call 16; (with_reducible refine (C1.out _).mono ?_); rintro e w' ⟨rfl, rfl⟩))
  exact bodyPost_ret (v := .tuple #[.agg #[.int .i64 0, .int .i64 0, .slice none 0 0], .int .i64 2]) (by simp [results, Tryd.results5, go_sem]) rfl (SerPost.err 2 rfl (by go_grown))
set_option maxRecDepth 100000 in
theorem sShw_2 (d n : Int) (v w : ByteArray) (hv : v.size ≤ maxLen) (hw : w.size ≤ maxLen) (hsh : shapeB d n = true) (hwv : wordB d v.data.toList = true) (hww : wordB d w.data.toList = false) (W : World) :
    Calls Tryd.prog 5 #[.int .i64 d, .int .i64 n, .string v, .string w] W (SerPost 0 0 [] 2 W) := by
  have Hsh := Lib.hid hsh
  have Hwv := Lib.hid hwv
  have Hww := Lib.hid hww
  have C1 := Lib.hid (fun W => l01Word_c d v hv W)
  rw [Hwv.out] at C1
  have C2 := Lib.hid (fun W => l01Word_c d w hw W)
  rw [Hww.out] at C2
  clear hv hw hsh hwv hww
  go_enter Tryd.func5, Tryd.ntmps5
  go_wp2_with (first | (go_at_call 15; refine (l01Sizes_c _ _ _).mono ?_; rw [Hsh.out]; rintro e w' ⟨rfl, rfl⟩) | (go_at_call 16; (with_reducible refine (C1.out _).mono ?_); rintro e w' ⟨rfl, rfl⟩) | (go_at_call 16; (with_reducible refine (C2.out _).mono ?_); rintro e w' ⟨rfl, rfl⟩))
  exact bodyPost_ret (v := .tuple #[.agg #[.int .i64 0, .int .i64 0, .slice none 0 0], .int .i64 2]) (by simp [results, Tryd.results5, go_sem]) rfl (SerPost.err 2 rfl (by go_grown))
set_option maxRecDepth 100000 in
theorem sShw_3 (d n : Int) (v w : ByteArray) (hv : v.size ≤ maxLen) (hw : w.size ≤ maxLen) (hsh : shapeB d n = true) (hwv : wordB d v.data.toList = true) (hww : wordB d w.data.toList = true) (hlv : ¬ (v.size : Int) ≤ n) (W : World) :
    Calls Tryd.prog 5 #[.int .i64 d, .int .i64 n, .string v, .string w] W (SerPost 0 0 [] 2 W) := by
  have Hsh := Lib.hid hsh
  have Hwv := Lib.hid hwv
  have Hww := Lib.hid hww
  have C1 := Lib.hid (fun W => l01Word_c d v hv W)
  rw [Hwv.out] at C1
  have C2 := Lib.hid (fun W => l01Word_c d w hw W)
  rw [Hww.out] at C2
  have hzv :  n < (v.size : Int) := by omega
  clear hv hw hsh hwv hww hlv
  go_enter Tryd.func5, Tryd.ntmps5
  go_wp2_with (first | (go_at_call 15; refine (l01Sizes_c _ _ _).mono ?_; rw [Hsh.out]; rintro e w' ⟨rfl, rfl⟩) | (go_at_call 16; (with_reducible refine (C1.out _).mono ?_); rintro e w' ⟨rfl, rfl⟩) | (go_at_call 16; (with_reducible refine (C2.out _).mono ?_); rintro e w' ⟨rfl, rfl⟩))
  exact bodyPost_ret (v := .tuple #[.agg #[.int .i64 0, .int .i64 0, .slice none 0 0], .int .i64 2]) (by simp [results, Tryd.results5, go_sem]) rfl (SerPost.err 2 rfl (by go_grown))
set_option maxRecDepth 100000 in
theorem sShw_4 (d n : Int) (v w : ByteArray) (hv : v.size ≤ maxLen) (hw : w.size ≤ maxLen) (hsh : shapeB d n = true) (hwv : wordB d v.data.toList = true) (hww : wordB d w.data.toList = true) (hlv :  (v.size : Int) ≤ n) (hlw : ¬ (w.size : Int) ≤ n) (W : World) :
    Calls Tryd.prog 5 #[.int .i64 d, .int .i64 n, .string v, .string w] W (SerPost 0 0 [] 2 W) := by
  have Hsh := Lib.hid hsh
  have Hwv := Lib.hid hwv
  have Hww := Lib.hid hww
  have C1 := Lib.hid (fun W => l01Word_c d v hv W)
  rw [Hwv.out] at C1
  have C2 := Lib.hid (fun W => l01Word_c d w hw W)
  rw [Hww.out] at C2
  have hzv : ¬ n < (v.size : Int) := by omega
  have hzw :  n < (w.size : Int) := by omega
  clear hv hw hsh hwv hww hlv hlw
  go_enter Tryd.func5, Tryd.ntmps5
  go_wp2_with (first | (go_at_call 15; refine (l01Sizes_c _ _ _).mono ?_; rw [Hsh.out]; rintro e w' ⟨rfl, rfl⟩) | (go_at_call 16; (with_reducible refine (C1.out _).mono ?_); rintro e w' ⟨rfl, rfl⟩) | (go_at_call 16; (with_reducible refine (C2.out _).mono ?_); rintro e w' ⟨rfl, rfl⟩))
  exact bodyPost_ret (v := .tuple #[.agg #[.int .i64 0, .int .i64 0, .slice none 0 0], .int .i64 2]) (by simp [results, Tryd.results5, go_sem]) rfl (SerPost.err 2 rfl (by go_grown))
set_option maxRecDepth 100000 in
theorem iShw_0 (d n : Int) (v w : ByteArray) (hv : v.size ≤ maxLen) (hw : w.size ≤ maxLen) (hsh : shapeB d n = false) (W : World) :
    Calls Tryd.prog 6 #[.int .i64 d, .int .i64 n, .string v, .string w] W (SerPost 0 0 [] 2 W) := by
  have Hsh := Lib.hid hsh
  clear hv hw hsh
  go_enter Tryd.func6, Tryd.ntmps6
  go_wp2_with (first | (go_at_call 19; refine (isShape_c _ _ _).mono ?_; rw [Hsh.out]; rintro e w' ⟨rfl, rfl⟩))
  exact bodyPost_ret (v := .tuple #[.agg #[.int .i64 0, .int .i64 0, .slice none 0 0], .int .i64 2]) (by simp [results, Tryd.results6, go_sem]) rfl (SerPost.err 2 rfl (by go_grown))
set_option maxRecDepth 100000 in
theorem iShw_1 (d n : Int) (v w : ByteArray) (hv : v.size ≤ maxLen) (hw : w.size ≤ maxLen) (hsh : shapeB d n = true) (hwv : (decide ((v.size : Int) ≤ n) && wordB d v.data.toList) = false) (W : World) :
    Calls Tryd.prog 6 #[.int .i64 d, .int .i64 n, .string v, .string w] W (SerPost 0 0 [] 2 W) := by
  have Hsh := Lib.hid hsh
  have C1 := Lib.hid (fun W => isWord_c d n v hv W)
  rw [hwv] at C1
  clear hv hw hsh hwv
  go_enter Tryd.func6, Tryd.ntmps6
  go_wp2_with (first | (go_at_call 19; refine (isShape_c _ _ _).mono ?_; rw [Hsh.out]; rintro e w' ⟨rfl, rfl⟩) | (go_at_call 20; (with_reducible refine (C1.out _).mono ?_); rintro e w' ⟨rfl, rfl⟩))
  exact bodyPost_ret (v := .tuple #[.agg #[.int .i64 0, .int .i64 0, .slice none 0 0], .int .i64 2]) (by simp [results, Tryd.results6, go_sem]) rfl (SerPost.err 2 rfl (by go_grown))
set_option maxRecDepth 100000 in
theorem iShw_2 (d n : Int) (v w : ByteArray) (hv : v.size ≤ maxLen) (hw : w.size ≤ maxLen) (hsh : shapeB d n = true) (hwv : (decide ((v.size : Int) ≤ n) && wordB d v.data.toList) = true) (hww : (decide ((w.size : Int) ≤ n) && wordB d w.data.toList) = false) (W : World) :
    Calls Tryd.prog 6 #[.int .i64 d, .int .i64 n, .string v, .string w] W (SerPost 0 0 [] 2 W) := by
  have Hsh := Lib.hid hsh
  have C1 := Lib.hid (fun W => isWord_c d n v hv W)
  rw [hwv] at C1
  have C2 := Lib.hid (fun W => isWord_c d n w hw W)
  rw [hww] at C2
  clear hv hw hsh hwv hww
  go_enter Tryd.func6, Tryd.ntmps6
  go_wp2_with (first | (go_at_call 19; refine (isShape_c _ _ _).mono ?_; rw [Hsh.out]; rintro e w' ⟨rfl, rfl⟩) | (go_at_call 20; (with_reducible refine (C1.out _).mono ?_); rintro e w' ⟨rfl, rfl⟩) | (go_at_call 20; (with_reducible refine (C2.out _).mono ?_); rintro e w' ⟨rfl, rfl⟩))
  exact bodyPost_ret (v := .tuple #[.agg #[.int .i64 0, .int .i64 0, .slice none 0 0], .int .i64 2]) (by simp [results, Tryd.results6, go_sem]) rfl (SerPost.err 2 rfl (by go_grown))
set_option maxRecDepth 100000 in
theorem sShw_5 (d n : Int) (v w : ByteArray) (hv : v.size ≤ maxLen) (hw : w.size ≤ maxLen) (hsh : shapeB d n = true) (hwv : wordB d v.data.toList = true) (hww : wordB d w.data.toList = true) (hlv : (v.size : Int) ≤ n) (hlw : (w.size : Int) ≤ n) (hsum : n < (v.size : Int) + (w.size : Int)) (W : World) :
    Calls Tryd.prog 5 #[.int .i64 d, .int .i64 n, .string v, .string w] W (SerPost d n [] 0 W) := by
  have Hsh := Lib.hid hsh
  have hn5 := shape_out hsh
  have C1 := Lib.hid (fun W => l01Word_c d v hv W)
  rw [hwv] at C1
  have C2 := Lib.hid (fun W => l01Word_c d w hw W)
  rw [hww] at C2
  have hzv : ¬ n < (v.size : Int) := by omega
  have hzw : ¬ n < (w.size : Int) := by omega
  clear hv hw hsh hwv hww
  go_enter Tryd.func5, Tryd.ntmps5
  go_wp2_with (first | (go_at_call 15; refine (l01Sizes_c _ _ _).mono ?_; rw [Hsh.out]; rintro e w' ⟨rfl, rfl⟩) | (go_at_call 16; (with_reducible refine (C1.out _).mono ?_); rintro e w' ⟨rfl, rfl⟩) | (go_at_call 16; (with_reducible refine (C2.out _).mono ?_); rintro e w' ⟨rfl, rfl⟩))
  refine bodyPost_ret (v := .tuple #[.agg #[.int .i64 d, .int .i64 n, .slice (some ⟨W.heap.size + 1, 0, none⟩) 0 0], .int .i64 0]) (by simp [results, Tryd.results5, go_sem]) rfl ?_
  refine ⟨_, 0, rfl, by go_grown, .inl rfl⟩

end Go.Proofs.YteljpgoaaelbfaaDoor
