/-
  The program's helpers of KeepLetters: whether bytes are all different, and whether a word has given letters alone.
-/
import Derived.Test.YtlaaldpejjlbkaaDoorPickM
import Derived.Test.YtlaaldpejjlbkaaDoorWo
import Derived.Test.YtlaaldpejjlbkaaDoorShelf
import Derived.Shelf.Strings.SlTrimAscii
import Derived.Lib.ConvBytes
namespace Go.Proofs.YtlaaldpejjlbkaaDoor
open Go.RowKit Go.Shelf

/-- no byte is there twice -/
def diffT (l : List UInt8) (k : Nat) : Bool := (List.range k).all fun i => !((l.take i).contains (l.getD i 0))
def diffB (l : List UInt8) : Bool := diffT l l.length
theorem diffT_succ (l : List UInt8) (k : Nat) : diffT l (k + 1) = (diffT l k && !((l.take k).contains (l.getD k 0))) := by
  simp [diffT, List.range_succ]
theorem diffT_no {l : List UInt8} {k n : Nat} (hk : k < n) (h : (l.take k).contains (l.getD k 0) = true) : diffT l n = false := by
  unfold diffT
  rw [List.all_eq_false]
  exact ⟨k, List.mem_range.2 hk, by rw [h]; simp⟩
theorem getD_at {l : List UInt8} {k : Nat} (h : k < l.length) : l.getD k 0 = l[k] := by rw [List.getD_eq_getElem?_getD, List.getElem?_eq_getElem h]; rfl
theorem contains_snoc (l : List UInt8) (k : Nat) (h : k < l.length) (x : UInt8) : (l.take (k + 1)).contains x = ((l.take k).contains x || (x == l[k])) := by
  rw [List.take_succ_eq_append_getElem h, List.contains_eq_any_beq, List.contains_eq_any_beq, List.any_append]
  simp only [List.any_cons, List.any_nil, Bool.or_false]

def ByAt (w : World) (b : Nat) (l : List UInt8) : Prop := ∀ j (h : j < l.length), w.cell? ⟨b, j, none⟩ = some (.int .u8 (l[j]).toNat)

set_option maxHeartbeats 2000000 in
theorem index_c (b n cap : Nat) (l : List UInt8) (hn : n ≤ l.length) (hl : l.length ≤ 1000) (x : UInt8) (w : World) (h : ByAt w b l) :
    Calls Tryd.prog 55 #[.slice (some ⟨b, 0, none⟩) n cap, .int .u8 x.toNat] w fun e w' => w = w' ∧ ∃ r : Int, e = .returned (.int .i64 r) ∧ (decide (0 ≤ r) = (l.take n).contains x) := by
  have HB := Lib.hid h
  clear h
  go_enter Tryd.func55, Tryd.ntmps55
  go_wp2
  go_loop [8] (fun vi => ∃ k : Nat, k ≤ n ∧ vi = .int .i64 k ∧ (l.take k).contains x = false) (fun i => n - (intOf i).toNat)
  case atStart => exact ⟨0, Nat.zero_le _, rfl, by simp⟩
  case round =>
    obtain ⟨k, hk, rfl, hc⟩ := hrel
    have HC := Lib.hid hc
    clear hc
    by_cases hlt : k < n
    · have hkl : k < l.length := by omega
      have c0 := HB.out k hkl
      have HS := Lib.hid (contains_snoc l k hkl x)
      obtain ⟨y, hy⟩ : ∃ y, l[k] = y := ⟨_, rfl⟩
      rw [hy] at c0 HS
      have hk0 : (0 : Int) ≤ (k : Int) := by omega
      have hkn : (k : Int) < (n : Int) := by omega
      clear hy
      by_cases hxy : x = y
      · subst hxy
        go_wp2
        go_ret
        refine ⟨rfl, k, rfl, ?_⟩
        have h1 : (l.take (k + 1)).contains x = true := by rw [HS.out]; simp
        rw [List.contains_iff_mem] at h1
        exact ⟨fun _ => (List.take_prefix_take_left (show k + 1 ≤ n by omega)).subset h1, fun _ => hk0⟩
      · have hne : (x.toNat : Int) ≠ (y.toNat : Int) := fun e => hxy (UInt8.toNat_inj.1 (by omega))
        have hbe : (x == y) = false := by simpa using hxy
        go_wp2
        go_round
        case rel => exact ⟨k + 1, by omega, by go_num, by rw [HS.out, HC.out, hbe]; rfl⟩
        case measure => simp [intOf]; omega
    · obtain rfl : k = n := by omega
      go_wp2
      go_ret
      refine ⟨rfl, -1, rfl, ⟨fun h => absurd h (by omega), fun h => ?_⟩⟩
      have := HC.out
      rw [List.contains_iff_mem.2 h] at this
      cases this
set_option maxHeartbeats 2000000 in
theorem contains_c (b n cap : Nat) (l : List UInt8) (hn : n ≤ l.length) (hl : l.length ≤ 1000) (x : UInt8) (w : World) (h : ByAt w b l) :
    Calls Tryd.prog 36 #[.slice (some ⟨b, 0, none⟩) n cap, .int .u8 x.toNat] w fun e w' => e = .returned (.bool ((l.take n).contains x)) ∧ w = w' := by
  go_enter Tryd.func36, Tryd.ntmps36
  go_wp2_with fail
  refine (index_c b n cap l hn hl x w h).mono ?_
  rintro e w' ⟨rfl, r, rfl, hr⟩
  go_wp2
  go_ret
  exact ⟨by rw [List.contains_eq_mem]; rfl, rfl⟩
set_option maxHeartbeats 2000000 in
theorem areDifferent_c (b cap : Nat) (l : List UInt8) (hl : l.length ≤ 1000) (hcap : l.length ≤ cap) (w : World) (h : ByAt w b l) :
    Calls Tryd.prog 18 #[.slice (some ⟨b, 0, none⟩) l.length cap] w fun e w' => e = .returned (.bool (diffB l)) ∧ w = w' := by
  have HB := Lib.hid h
  clear h
  obtain ⟨q, hq⟩ : ∃ q, diffB l = q := ⟨_, rfl⟩
  rw [hq]
  have HQ := Lib.hid hq
  clear hq
  go_enter Tryd.func18, Tryd.ntmps18
  go_wp2
  go_loop [7] (fun vi => ∃ k : Nat, k ≤ l.length ∧ vi = .int .i64 k ∧ diffT l k = true) (fun i => l.length - (intOf i).toNat)
  case atStart => exact ⟨0, Nat.zero_le _, rfl, rfl⟩
  case round =>
    obtain ⟨k, hk, rfl, hc⟩ := hrel
    have HC := Lib.hid hc
    clear hc
    by_cases hlt : k < l.length
    · have c0 := HB.out k hlt
      have HS := Lib.hid (diffT_succ l k)
      have HN := Lib.hid (fun h => diffT_no (l := l) (k := k) hlt h)
      rw [getD_at hlt] at HS HN
      have HCo := Lib.hid (fun c W h => contains_c b k c l (Nat.le_of_lt hlt) hl l[k] W h)
      obtain ⟨y, hy⟩ : ∃ y, l[k] = y := ⟨_, rfl⟩
      rw [hy] at c0 HS HN HCo
      have hk0 : (0 : Int) ≤ (k : Int) := by omega
      have hkn : (k : Int) < (l.length : Int) := by omega
      have hkc : (k : Int) ≤ (cap : Int) := by omega
      clear hy
      cases hct : (l.take k).contains y with
      | true =>
        have HF := Lib.hid (HN.out hct)
        rw [hct] at HCo
        go_wp2_with (go_at_call 36; refine (HCo.out _ _ HB.out).mono ?_; rintro e w' ⟨rfl, rfl⟩)
        go_ret
        exact ⟨by rw [← HQ.out]; unfold diffB; rw [HF.out]; rfl, rfl⟩
      | false =>
        rw [hct] at HS HCo
        go_wp2_with (go_at_call 36; refine (HCo.out _ _ HB.out).mono ?_; rintro e w' ⟨rfl, rfl⟩)
        go_round
        case rel => exact ⟨k + 1, by omega, by go_num, by rw [HS.out, HC.out]; rfl⟩
        case measure => simp [intOf]; omega
    · obtain rfl : k = l.length := by omega
      go_wp2
      go_ret
      exact ⟨by rw [← HQ.out]; unfold diffB; rw [HC.out]; rfl, rfl⟩

theorem dropW_all (p : UInt8 → Bool) : ∀ l : List UInt8, (∀ x ∈ l, p x = true) → l.dropWhile p = []
  | [], _ => rfl
  | x :: l, h => by
    rw [List.dropWhile_cons_of_pos (h x (by simp))]
    exact dropW_all p l (fun y hy => h y (by simp [hy]))
theorem trimS_empty (l cs : List UInt8) : (Lib.trimS l cs).isEmpty = l.all (fun c => cs.contains c) := by
  cases h : l.all (fun c => cs.contains c) with
  | true =>
    rw [List.all_eq_true] at h
    have h1 : Lib.trimRightS l cs = [] := by
      unfold Lib.trimRightS
      rw [List.reverse_eq_nil_iff]
      exact dropW_all _ _ (fun x hx => h x (by simpa using hx))
    unfold Lib.trimS
    rw [h1, Lib.trimLeftS_nil]; rfl
  | false =>
    rw [List.all_eq_false] at h
    obtain ⟨x, hx, hn⟩ := h
    have h1 : x ∈ Lib.trimRightS l cs := by
      unfold Lib.trimRightS
      rw [List.mem_reverse]
      have hm : x ∈ l.reverse := by simpa using hx
      rw [← List.takeWhile_append_dropWhile (p := (cs.contains ·)) (l := l.reverse)] at hm
      rcases List.mem_append.1 hm with h | h
      · exact absurd (List.all_takeWhile (p := (cs.contains ·)) (l := l.reverse) |> fun q => by rw [List.all_eq_true] at q; exact q x h) hn
      · exact h
    have h2 : x ∈ Lib.trimS l cs := by
      unfold Lib.trimS Lib.trimLeftS
      have hm := h1
      rw [← List.takeWhile_append_dropWhile (p := (cs.contains ·)) (l := Lib.trimRightS l cs)] at hm
      rcases List.mem_append.1 hm with h | h
      · exact absurd (List.all_takeWhile (p := (cs.contains ·)) (l := Lib.trimRightS l cs) |> fun q => by rw [List.all_eq_true] at q; exact q x h) hn
      · exact h
    cases he : Lib.trimS l cs with
    | nil => rw [he] at h2; cases h2
    | cons _ _ => rfl
theorem ofOnly_val (u s : ByteArray) : (ofOnly u s).getD s = s ∧ (ofOnly u s).isSome = (Lib.trimS s.data.toList u.data.toList).isEmpty := by
  rw [trimS_empty]
  unfold ofOnly
  cases s.data.toList.all (fun c => u.data.toList.contains c) <;> exact ⟨rfl, rfl⟩

set_option maxRecDepth 100000 in
theorem trimmed_c (s u : ByteArray) (hs : s.size ≤ 5) (hu : u.size ≤ 5) (ha : ∀ c ∈ u.data.toList, c.toNat < 128) (w : World) :
    Calls Tryd.prog 21 #[.string s, .string u] w fun e w' => e = .returned (.string ⟨(Lib.trimS s.data.toList u.data.toList).toArray⟩) ∧ Below w.heap.size w w' :=
  Any.strings_Trim_ascii Tryd.lays160 (by intro w; kernel_rfl) (by kernel_rfl) s u w (by omega) (by omega) (fun j b hb => ha b (List.mem_of_getElem? hb))

set_option maxHeartbeats 2000000 in
theorem only_c (u : ByteArray) (hu : u.size ≤ 5) (ha : ∀ c ∈ u.data.toList, c.toNat < 128) (q : Nat) (w : World) (hq : q < w.heap.size) (c2 : w.cell? ⟨q, 0, none⟩ = some (.string u)) :
    ChangeAt 20 #[.pointer (some ⟨q, 0, none⟩)] (ofOnly u) w := by
  intro W hB s hs
  have d2 : W.cell? ⟨q, 0, none⟩ = some (.string u) := (hB.cell (p := ⟨q, 0, none⟩) hq).trans c2
  have HA := Lib.hid ha
  clear hB c2 ha
  rw [(ofOnly_val u s).1, (ofOnly_val u s).2]
  show Calls Tryd.prog 20 #[.string s, .pointer (some ⟨q, 0, none⟩)] W _
  go_enter Tryd.func20, Tryd.ntmps20
  go_wp2_with fail
  refine (trimmed_c s u hs hu HA.out _).mono ?_
  rintro e w1 ⟨rfl, hb⟩
  have HB := Lib.hid hb
  clear hb
  go_wp2
  go_ret2
  exact ⟨rfl, HB.out⟩
end Go.Proofs.YtlaaldpejjlbkaaDoor
