/-
  The model's number of a word in the shuffle of two words.
-/
import Derived.Test.YtjloadllckllpaaGreatDoorShuM
import Derived.Test.YtjloadllckllpaaGreatDoorOrd
namespace Go.Proofs.YtjloadllckllpaaGreatDoor
open Go.RowKit
set_option linter.unusedVariables false

theorem behind_ext (s : ByteArray) : s.extract 1 s.size = behind s := by
  unfold behind
  apply ByteArray.ext
  apply Array.ext'
  have e : s.size - 1 = s.data.toList.tail.length := by rw [List.length_tail]; rfl
  simp only [ByteArray.data_extract, Array.toList_extract, List.extract_eq_take_drop, List.drop_one]
  rw [e, List.take_length]
theorem behind_size {s : ByteArray} (h : 0 < s.size) : (behind s).size = s.size - 1 := by
  rw [← behind_ext]; simp only [ByteArray.size_extract]; omega
theorem head_of {s : ByteArray} (h : 0 < s.size) : s.data.toList.head? = some s[0] := by
  have h' : 0 < s.data.toList.length := h
  cases hs : s.data.toList with
  | nil => rw [hs] at h'; cases h'
  | cons a r =>
    simp only [List.head?_cons]
    have : s[0] = s.data.toList[0] := by
      rw [Array.getElem_toList]; rfl
    simp only [this, hs, List.getElem_cons_zero]
theorem nil_of {s : ByteArray} (h : s.size = 0) : s.data.toList = [] := List.eq_nil_of_length_eq_zero h
theorem cons_of {s : ByteArray} (h : 0 < s.size) : s.data.toList = s[0] :: (behind s).data.toList := by
  have h1 := head_of h
  unfold behind
  cases hs : s.data.toList with
  | nil => rw [hs] at h1; cases h1
  | cons a r =>
    rw [hs] at h1
    simp only [List.head?_cons, Option.some.injEq] at h1
    simp [h1]
/-- what the model's two heads come to -/
theorem shN_heads {v w u : ByteArray} (h : 0 < u.size) (x y : Nat) (hx : (if v.data.toList.head? = some u[0] then shN (behind v).data.toList w.data.toList (behind u).data.toList else 0) = x) (hy : (if w.data.toList.head? = some u[0] then shN v.data.toList (behind w).data.toList (behind u).data.toList else 0) = y) :
    shN v.data.toList w.data.toList u.data.toList = x + y := by
  rw [cons_of h, shN, ← hx, ← hy]
  rfl
theorem shN_b {v w u : List UInt8} (h : u.length ≤ 8) : (shN v w u : Int) ≤ 256 := by
  have h1 := shN_le u v w
  have h2 : 2 ^ u.length ≤ 2 ^ 8 := Nat.pow_le_pow_right (by omega) h
  omega
theorem drew_ex {W W' : World} (h : ∃ m, W' = W.drewN m) (n : Nat) : ∃ m, W'.drewN n = W.drewN m := by
  obtain ⟨m, rfl⟩ := h
  exact ⟨m + n, by rw [World.drewN_drewN]⟩
theorem drew_0 (W : World) : ∃ m, W = W.drewN m := ⟨0, rfl⟩
theorem quiet_of2 {P : Program} {f : FuncId} {args : Array Value} {W : World} {k n : Nat} {v : Value}
    (h : Calls P f args (W.drewN (k + n)) fun e w' => e = .returned v ∧ ∃ m, w' = (W.drewN (k + n)).drewN m) : Calls P f args (W.drewN (k + n)) fun e w'' => e = .returned v ∧ ∃ m, w'' = W.drewN (k + m) :=
  h.mono fun _ _ ⟨he, m, hm⟩ => ⟨he, n + m, by rw [hm, World.drewN_drewN, Nat.add_assoc]⟩
/-- the model's number: what is proved of it -/
def NumAt (n : Nat) : Prop := ∀ (v w u : ByteArray), u.size = n → n ≤ 8 → v.size ≤ 8 → w.size ≤ 8 → ∀ W, Calls Tryz.prog 40 #[.string v, .string w, .string u] W fun e w' => e = .returned (.int .i64 (shN v.data.toList w.data.toList u.data.toList : Nat)) ∧ ∃ m, w' = W.drewN m
set_option maxRecDepth 100000 in
theorem num_ne (n : Nat) (v w u : ByteArray) (hu : u.size = n) (hn : n ≤ 8) (hv : v.size ≤ 8) (hw : w.size ≤ 8) (hl : v.size + w.size ≠ u.size) (W : World) : Calls Tryz.prog 40 #[.string v, .string w, .string u] W fun e w' => e = .returned (.int .i64 (shN v.data.toList w.data.toList u.data.toList : Nat)) ∧ ∃ m, w' = W.drewN m := by
  have e : shN v.data.toList w.data.toList u.data.toList = 0 := shN_len _ _ _ hl
  rw [e]
  have h0 : ¬ ((v.size : Int) + (w.size : Int) = (u.size : Int)) := by omega
  clear hl e
  go_enter Tryz.func40, Tryz.ntmps40
  go_wp2
  go_ret
  exact ⟨rfl, drew_0 _⟩
set_option maxRecDepth 100000 in
theorem num_0 : NumAt 0 := by
  intro v w u hu hn hv hw W
  by_cases hl : v.size + w.size = u.size
  · have hv0 : v.size = 0 := by omega
    have hw0 : w.size = 0 := by omega
    have e : shN v.data.toList w.data.toList u.data.toList = 1 := by rw [nil_of hv0, nil_of hw0, nil_of hu]; rfl
    rw [e]
    clear hl e hn hv hw
    go_enter Tryz.func40, Tryz.ntmps40
    go_wp2
    go_ret
    exact ⟨rfl, drew_0 _⟩
  · exact num_ne 0 v w u hu hn hv hw hl W

set_option maxRecDepth 100000 in
set_option maxHeartbeats 1000000 in
theorem num_zy (n : Nat) (ih : NumAt n) (v w u : ByteArray) (hu : u.size = n + 1) (hn : n + 1 ≤ 8) (hv : v.size ≤ 8) (hw : w.size ≤ 8) (hl : v.size + w.size = u.size) (hu0 : 0 < u.size) (hv0 : v.size = 0) (hw0 : 0 < w.size) (hqw : w[0] = u[0]) (W : World) : Calls Tryz.prog 40 #[.string v, .string w, .string u] W fun e w' => e = .returned (.int .i64 (shN v.data.toList w.data.toList u.data.toList : Nat)) ∧ ∃ m, w' = W.drewN m := by
  have hbu : (behind u).size = n := by rw [behind_size hu0]; omega
  have hbw : (behind w).size ≤ 8 := by rw [behind_size hw0]; omega
  obtain ⟨nw, hnw⟩ : ∃ m, shN v.data.toList (behind w).data.toList (behind u).data.toList = m := ⟨_, rfl⟩
  have hlw : (nw : Int) ≤ 256 := by rw [← hnw]; exact shN_b (by have : (behind u).data.toList.length = n := hbu; omega)
  have hr := shN_heads (v := v) (w := w) hu0 0 nw (by rw [nil_of hv0]; rfl) (by rw [head_of hw0, hqw, if_pos rfl]; exact hnw)
  rw [hr]
  have HIw := ih v (behind w) (behind u) hbu (by omega) (by omega) (by omega)
  rw [hnw] at HIw
  replace HIw := Lib.hid HIw
  have hiw : (w[0].toNat : Int) = (u[0].toNat : Int) := by rw [hqw]
  have hxw : w.extract 1 w.size = behind w := behind_ext w
  have hxu : u.extract 1 u.size = behind u := behind_ext u
  have hlz : (v.size : Int) + (w.size : Int) = (u.size : Int) := by omega
  have h1w : (1 : Int) ≤ (w.size : Int) := by omega
  have h1u : (1 : Int) ≤ (u.size : Int) := by omega
  clear hr ih hu hl hbu hqw hnw
  go_enter Tryz.func40, Tryz.ntmps40
  go_wp2_with fail
  go_quiet (fail)
  go_wp2_with fail
  go_quiet (fail)
  go_wp2_with fail
  go_quiet ((go_at_call 40; (try simp only [hxw, hxu]); exact (quiet_of2 (HIw.out _))))
  go_wp2_with fail
  go_ret
  refine ⟨?_, ?_⟩
  · simp
  · repeat' (first | exact drew_0 _ | refine drew_ex ?_ _)

set_option maxRecDepth 100000 in
set_option maxHeartbeats 1000000 in
theorem num_zn (n : Nat) (ih : NumAt n) (v w u : ByteArray) (hu : u.size = n + 1) (hn : n + 1 ≤ 8) (hv : v.size ≤ 8) (hw : w.size ≤ 8) (hl : v.size + w.size = u.size) (hu0 : 0 < u.size) (hv0 : v.size = 0) (hw0 : 0 < w.size) (hqw : ¬ w[0] = u[0]) (W : World) : Calls Tryz.prog 40 #[.string v, .string w, .string u] W fun e w' => e = .returned (.int .i64 (shN v.data.toList w.data.toList u.data.toList : Nat)) ∧ ∃ m, w' = W.drewN m := by
  have hbu : (behind u).size = n := by rw [behind_size hu0]; omega
  have hr := shN_heads (v := v) (w := w) hu0 0 0 (by rw [nil_of hv0]; rfl) (by rw [head_of hw0, if_neg (fun e => hqw (Option.some.inj e))])
  rw [hr]
  have hiw : ¬ (w[0].toNat : Int) = (u[0].toNat : Int) := fun e => hqw (UInt8.toNat_inj.1 (by omega))
  have hxu : u.extract 1 u.size = behind u := behind_ext u
  have hlz : (v.size : Int) + (w.size : Int) = (u.size : Int) := by omega
  have h1w : (1 : Int) ≤ (w.size : Int) := by omega
  have h1u : (1 : Int) ≤ (u.size : Int) := by omega
  clear hr ih hu hl hbu hqw
  go_enter Tryz.func40, Tryz.ntmps40
  go_wp2_with fail
  go_quiet (fail)
  go_wp2_with fail
  go_quiet (fail)
  go_wp2_with fail
  go_ret
  refine ⟨?_, ?_⟩
  · simp
  · repeat' (first | exact drew_0 _ | refine drew_ex ?_ _)

set_option maxRecDepth 100000 in
set_option maxHeartbeats 1000000 in
theorem num_yz (n : Nat) (ih : NumAt n) (v w u : ByteArray) (hu : u.size = n + 1) (hn : n + 1 ≤ 8) (hv : v.size ≤ 8) (hw : w.size ≤ 8) (hl : v.size + w.size = u.size) (hu0 : 0 < u.size) (hv0 : 0 < v.size) (hqv : v[0] = u[0]) (hw0 : w.size = 0) (W : World) : Calls Tryz.prog 40 #[.string v, .string w, .string u] W fun e w' => e = .returned (.int .i64 (shN v.data.toList w.data.toList u.data.toList : Nat)) ∧ ∃ m, w' = W.drewN m := by
  have hbu : (behind u).size = n := by rw [behind_size hu0]; omega
  have hbv : (behind v).size ≤ 8 := by rw [behind_size hv0]; omega
  obtain ⟨nv, hnv⟩ : ∃ m, shN (behind v).data.toList w.data.toList (behind u).data.toList = m := ⟨_, rfl⟩
  have hlv : (nv : Int) ≤ 256 := by rw [← hnv]; exact shN_b (by have : (behind u).data.toList.length = n := hbu; omega)
  have hr := shN_heads (v := v) (w := w) hu0 nv 0 (by rw [head_of hv0, hqv, if_pos rfl]; exact hnv) (by rw [nil_of hw0]; rfl)
  rw [hr]
  have HIv := ih (behind v) w (behind u) hbu (by omega) (by omega) (by omega)
  rw [hnv] at HIv
  replace HIv := Lib.hid HIv
  have hiv : (v[0].toNat : Int) = (u[0].toNat : Int) := by rw [hqv]
  have hxv : v.extract 1 v.size = behind v := behind_ext v
  have hxu : u.extract 1 u.size = behind u := behind_ext u
  have hlz : (v.size : Int) + (w.size : Int) = (u.size : Int) := by omega
  have h1v : (1 : Int) ≤ (v.size : Int) := by omega
  have h1u : (1 : Int) ≤ (u.size : Int) := by omega
  clear hr ih hu hl hbu hqv hnv
  go_enter Tryz.func40, Tryz.ntmps40
  go_wp2_with fail
  go_quiet (fail)
  go_wp2_with fail
  go_quiet ((go_at_call 40; (try simp only [hxv, hxu]); exact (quiet_of2 (HIv.out _))))
  go_wp2_with fail
  go_quiet (fail)
  go_wp2_with fail
  go_ret
  refine ⟨?_, ?_⟩
  · simp
  · repeat' (first | exact drew_0 _ | refine drew_ex ?_ _)

set_option maxRecDepth 100000 in
set_option maxHeartbeats 1000000 in
theorem num_yy (n : Nat) (ih : NumAt n) (v w u : ByteArray) (hu : u.size = n + 1) (hn : n + 1 ≤ 8) (hv : v.size ≤ 8) (hw : w.size ≤ 8) (hl : v.size + w.size = u.size) (hu0 : 0 < u.size) (hv0 : 0 < v.size) (hqv : v[0] = u[0]) (hw0 : 0 < w.size) (hqw : w[0] = u[0]) (W : World) : Calls Tryz.prog 40 #[.string v, .string w, .string u] W fun e w' => e = .returned (.int .i64 (shN v.data.toList w.data.toList u.data.toList : Nat)) ∧ ∃ m, w' = W.drewN m := by
  have hbu : (behind u).size = n := by rw [behind_size hu0]; omega
  have hbv : (behind v).size ≤ 8 := by rw [behind_size hv0]; omega
  obtain ⟨nv, hnv⟩ : ∃ m, shN (behind v).data.toList w.data.toList (behind u).data.toList = m := ⟨_, rfl⟩
  have hlv : (nv : Int) ≤ 256 := by rw [← hnv]; exact shN_b (by have : (behind u).data.toList.length = n := hbu; omega)
  have hbw : (behind w).size ≤ 8 := by rw [behind_size hw0]; omega
  obtain ⟨nw, hnw⟩ : ∃ m, shN v.data.toList (behind w).data.toList (behind u).data.toList = m := ⟨_, rfl⟩
  have hlw : (nw : Int) ≤ 256 := by rw [← hnw]; exact shN_b (by have : (behind u).data.toList.length = n := hbu; omega)
  have hr := shN_heads (v := v) (w := w) hu0 nv nw (by rw [head_of hv0, hqv, if_pos rfl]; exact hnv) (by rw [head_of hw0, hqw, if_pos rfl]; exact hnw)
  rw [hr]
  have HIv := ih (behind v) w (behind u) hbu (by omega) (by omega) (by omega)
  rw [hnv] at HIv
  replace HIv := Lib.hid HIv
  have hiv : (v[0].toNat : Int) = (u[0].toNat : Int) := by rw [hqv]
  have hxv : v.extract 1 v.size = behind v := behind_ext v
  have HIw := ih v (behind w) (behind u) hbu (by omega) (by omega) (by omega)
  rw [hnw] at HIw
  replace HIw := Lib.hid HIw
  have hiw : (w[0].toNat : Int) = (u[0].toNat : Int) := by rw [hqw]
  have hxw : w.extract 1 w.size = behind w := behind_ext w
  have hxu : u.extract 1 u.size = behind u := behind_ext u
  have hlz : (v.size : Int) + (w.size : Int) = (u.size : Int) := by omega
  have h1v : (1 : Int) ≤ (v.size : Int) := by omega
  have h1w : (1 : Int) ≤ (w.size : Int) := by omega
  have h1u : (1 : Int) ≤ (u.size : Int) := by omega
  clear hr ih hu hl hbu hqv hqw hnv hnw
  go_enter Tryz.func40, Tryz.ntmps40
  go_wp2_with fail
  go_quiet (fail)
  go_wp2_with fail
  go_quiet ((go_at_call 40; (try simp only [hxv, hxu]); exact (quiet_of2 (HIv.out _))))
  go_wp2_with fail
  go_quiet (fail)
  go_wp2_with fail
  go_quiet ((go_at_call 40; (try simp only [hxw, hxu]); exact (quiet_of2 (HIw.out _))))
  go_wp2_with fail
  go_ret
  refine ⟨?_, ?_⟩
  · simp
  · repeat' (first | exact drew_0 _ | refine drew_ex ?_ _)

set_option maxRecDepth 100000 in
set_option maxHeartbeats 1000000 in
theorem num_yn (n : Nat) (ih : NumAt n) (v w u : ByteArray) (hu : u.size = n + 1) (hn : n + 1 ≤ 8) (hv : v.size ≤ 8) (hw : w.size ≤ 8) (hl : v.size + w.size = u.size) (hu0 : 0 < u.size) (hv0 : 0 < v.size) (hqv : v[0] = u[0]) (hw0 : 0 < w.size) (hqw : ¬ w[0] = u[0]) (W : World) : Calls Tryz.prog 40 #[.string v, .string w, .string u] W fun e w' => e = .returned (.int .i64 (shN v.data.toList w.data.toList u.data.toList : Nat)) ∧ ∃ m, w' = W.drewN m := by
  have hbu : (behind u).size = n := by rw [behind_size hu0]; omega
  have hbv : (behind v).size ≤ 8 := by rw [behind_size hv0]; omega
  obtain ⟨nv, hnv⟩ : ∃ m, shN (behind v).data.toList w.data.toList (behind u).data.toList = m := ⟨_, rfl⟩
  have hlv : (nv : Int) ≤ 256 := by rw [← hnv]; exact shN_b (by have : (behind u).data.toList.length = n := hbu; omega)
  have hr := shN_heads (v := v) (w := w) hu0 nv 0 (by rw [head_of hv0, hqv, if_pos rfl]; exact hnv) (by rw [head_of hw0, if_neg (fun e => hqw (Option.some.inj e))])
  rw [hr]
  have HIv := ih (behind v) w (behind u) hbu (by omega) (by omega) (by omega)
  rw [hnv] at HIv
  replace HIv := Lib.hid HIv
  have hiv : (v[0].toNat : Int) = (u[0].toNat : Int) := by rw [hqv]
  have hxv : v.extract 1 v.size = behind v := behind_ext v
  have hiw : ¬ (w[0].toNat : Int) = (u[0].toNat : Int) := fun e => hqw (UInt8.toNat_inj.1 (by omega))
  have hxu : u.extract 1 u.size = behind u := behind_ext u
  have hlz : (v.size : Int) + (w.size : Int) = (u.size : Int) := by omega
  have h1v : (1 : Int) ≤ (v.size : Int) := by omega
  have h1w : (1 : Int) ≤ (w.size : Int) := by omega
  have h1u : (1 : Int) ≤ (u.size : Int) := by omega
  clear hr ih hu hl hbu hqv hqw hnv
  go_enter Tryz.func40, Tryz.ntmps40
  go_wp2_with fail
  go_quiet (fail)
  go_wp2_with fail
  go_quiet ((go_at_call 40; (try simp only [hxv, hxu]); exact (quiet_of2 (HIv.out _))))
  go_wp2_with fail
  go_quiet (fail)
  go_wp2_with fail
  go_ret
  refine ⟨?_, ?_⟩
  · simp
  · repeat' (first | exact drew_0 _ | refine drew_ex ?_ _)

set_option maxRecDepth 100000 in
set_option maxHeartbeats 1000000 in
theorem num_nz (n : Nat) (ih : NumAt n) (v w u : ByteArray) (hu : u.size = n + 1) (hn : n + 1 ≤ 8) (hv : v.size ≤ 8) (hw : w.size ≤ 8) (hl : v.size + w.size = u.size) (hu0 : 0 < u.size) (hv0 : 0 < v.size) (hqv : ¬ v[0] = u[0]) (hw0 : w.size = 0) (W : World) : Calls Tryz.prog 40 #[.string v, .string w, .string u] W fun e w' => e = .returned (.int .i64 (shN v.data.toList w.data.toList u.data.toList : Nat)) ∧ ∃ m, w' = W.drewN m := by
  have hbu : (behind u).size = n := by rw [behind_size hu0]; omega
  have hr := shN_heads (v := v) (w := w) hu0 0 0 (by rw [head_of hv0, if_neg (fun e => hqv (Option.some.inj e))]) (by rw [nil_of hw0]; rfl)
  rw [hr]
  have hiv : ¬ (v[0].toNat : Int) = (u[0].toNat : Int) := fun e => hqv (UInt8.toNat_inj.1 (by omega))
  have hxu : u.extract 1 u.size = behind u := behind_ext u
  have hlz : (v.size : Int) + (w.size : Int) = (u.size : Int) := by omega
  have h1v : (1 : Int) ≤ (v.size : Int) := by omega
  have h1u : (1 : Int) ≤ (u.size : Int) := by omega
  clear hr ih hu hl hbu hqv
  go_enter Tryz.func40, Tryz.ntmps40
  go_wp2_with fail
  go_quiet (fail)
  go_wp2_with fail
  go_quiet (fail)
  go_wp2_with fail
  go_ret
  refine ⟨?_, ?_⟩
  · simp
  · repeat' (first | exact drew_0 _ | refine drew_ex ?_ _)

set_option maxRecDepth 100000 in
set_option maxHeartbeats 1000000 in
theorem num_ny (n : Nat) (ih : NumAt n) (v w u : ByteArray) (hu : u.size = n + 1) (hn : n + 1 ≤ 8) (hv : v.size ≤ 8) (hw : w.size ≤ 8) (hl : v.size + w.size = u.size) (hu0 : 0 < u.size) (hv0 : 0 < v.size) (hqv : ¬ v[0] = u[0]) (hw0 : 0 < w.size) (hqw : w[0] = u[0]) (W : World) : Calls Tryz.prog 40 #[.string v, .string w, .string u] W fun e w' => e = .returned (.int .i64 (shN v.data.toList w.data.toList u.data.toList : Nat)) ∧ ∃ m, w' = W.drewN m := by
  have hbu : (behind u).size = n := by rw [behind_size hu0]; omega
  have hbw : (behind w).size ≤ 8 := by rw [behind_size hw0]; omega
  obtain ⟨nw, hnw⟩ : ∃ m, shN v.data.toList (behind w).data.toList (behind u).data.toList = m := ⟨_, rfl⟩
  have hlw : (nw : Int) ≤ 256 := by rw [← hnw]; exact shN_b (by have : (behind u).data.toList.length = n := hbu; omega)
  have hr := shN_heads (v := v) (w := w) hu0 0 nw (by rw [head_of hv0, if_neg (fun e => hqv (Option.some.inj e))]) (by rw [head_of hw0, hqw, if_pos rfl]; exact hnw)
  rw [hr]
  have hiv : ¬ (v[0].toNat : Int) = (u[0].toNat : Int) := fun e => hqv (UInt8.toNat_inj.1 (by omega))
  have HIw := ih v (behind w) (behind u) hbu (by omega) (by omega) (by omega)
  rw [hnw] at HIw
  replace HIw := Lib.hid HIw
  have hiw : (w[0].toNat : Int) = (u[0].toNat : Int) := by rw [hqw]
  have hxw : w.extract 1 w.size = behind w := behind_ext w
  have hxu : u.extract 1 u.size = behind u := behind_ext u
  have hlz : (v.size : Int) + (w.size : Int) = (u.size : Int) := by omega
  have h1v : (1 : Int) ≤ (v.size : Int) := by omega
  have h1w : (1 : Int) ≤ (w.size : Int) := by omega
  have h1u : (1 : Int) ≤ (u.size : Int) := by omega
  clear hr ih hu hl hbu hqv hqw hnw
  go_enter Tryz.func40, Tryz.ntmps40
  go_wp2_with fail
  go_quiet (fail)
  go_wp2_with fail
  go_quiet (fail)
  go_wp2_with fail
  go_quiet ((go_at_call 40; (try simp only [hxw, hxu]); exact (quiet_of2 (HIw.out _))))
  go_wp2_with fail
  go_ret
  refine ⟨?_, ?_⟩
  · simp
  · repeat' (first | exact drew_0 _ | refine drew_ex ?_ _)

set_option maxRecDepth 100000 in
set_option maxHeartbeats 1000000 in
theorem num_nn (n : Nat) (ih : NumAt n) (v w u : ByteArray) (hu : u.size = n + 1) (hn : n + 1 ≤ 8) (hv : v.size ≤ 8) (hw : w.size ≤ 8) (hl : v.size + w.size = u.size) (hu0 : 0 < u.size) (hv0 : 0 < v.size) (hqv : ¬ v[0] = u[0]) (hw0 : 0 < w.size) (hqw : ¬ w[0] = u[0]) (W : World) : Calls Tryz.prog 40 #[.string v, .string w, .string u] W fun e w' => e = .returned (.int .i64 (shN v.data.toList w.data.toList u.data.toList : Nat)) ∧ ∃ m, w' = W.drewN m := by
  have hbu : (behind u).size = n := by rw [behind_size hu0]; omega
  have hr := shN_heads (v := v) (w := w) hu0 0 0 (by rw [head_of hv0, if_neg (fun e => hqv (Option.some.inj e))]) (by rw [head_of hw0, if_neg (fun e => hqw (Option.some.inj e))])
  rw [hr]
  have hiv : ¬ (v[0].toNat : Int) = (u[0].toNat : Int) := fun e => hqv (UInt8.toNat_inj.1 (by omega))
  have hiw : ¬ (w[0].toNat : Int) = (u[0].toNat : Int) := fun e => hqw (UInt8.toNat_inj.1 (by omega))
  have hxu : u.extract 1 u.size = behind u := behind_ext u
  have hlz : (v.size : Int) + (w.size : Int) = (u.size : Int) := by omega
  have h1v : (1 : Int) ≤ (v.size : Int) := by omega
  have h1w : (1 : Int) ≤ (w.size : Int) := by omega
  have h1u : (1 : Int) ≤ (u.size : Int) := by omega
  clear hr ih hu hl hbu hqv hqw
  go_enter Tryz.func40, Tryz.ntmps40
  go_wp2_with fail
  go_quiet (fail)
  go_wp2_with fail
  go_quiet (fail)
  go_wp2_with fail
  go_ret
  refine ⟨?_, ?_⟩
  · simp
  · repeat' (first | exact drew_0 _ | refine drew_ex ?_ _)

theorem num_all : ∀ n, NumAt n
  | 0 => num_0
  | n + 1 => by
    have ih := num_all n
    intro v w u hu hn hv hw W
    by_cases hl : v.size + w.size = u.size
    · have hu0 : 0 < u.size := by omega
      by_cases hv0 : v.size = 0
      · have hw0 : 0 < w.size := by omega
        by_cases hqw : w[0] = u[0]
        · exact num_zy n ih v w u hu hn hv hw hl hu0 hv0 hw0 hqw W
        · exact num_zn n ih v w u hu hn hv hw hl hu0 hv0 hw0 hqw W
      · have hv0 : 0 < v.size := by omega
        by_cases hqv : v[0] = u[0]
        · by_cases hw0 : w.size = 0
          · exact num_yz n ih v w u hu hn hv hw hl hu0 hv0 hqv hw0 W
          · have hw0 : 0 < w.size := by omega
            by_cases hqw : w[0] = u[0]
            · exact num_yy n ih v w u hu hn hv hw hl hu0 hv0 hqv hw0 hqw W
            · exact num_yn n ih v w u hu hn hv hw hl hu0 hv0 hqv hw0 hqw W
        · by_cases hw0 : w.size = 0
          · exact num_nz n ih v w u hu hn hv hw hl hu0 hv0 hqv hw0 W
          · have hw0 : 0 < w.size := by omega
            by_cases hqw : w[0] = u[0]
            · exact num_ny n ih v w u hu hn hv hw hl hu0 hv0 hqv hw0 hqw W
            · exact num_nn n ih v w u hu hn hv hw hl hu0 hv0 hqv hw0 hqw W
    · exact num_ne (n + 1) v w u hu hn hv hw hl W
end Go.Proofs.YtjloadllckllpaaGreatDoor
