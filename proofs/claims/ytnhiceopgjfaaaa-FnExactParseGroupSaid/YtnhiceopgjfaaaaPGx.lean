/-
  ParseGroup: contracts of the program and of the model.
-/
import Derived.Test.YtnhiceopgjfaaaaGrp
import Derived.Test.YtnhiceopgjfaaaaShelf
import Derived.WalkLawsBesides
namespace Go.Proofs.Ytnhiceopgjfaaaa
open Go.RowKit

/-- the number of a byte of a text, or nought -/
def numG (c : Int) : Int := if 97 ≤ c ∧ c ≤ 99 then c - 96 else if 65 ≤ c ∧ c ≤ 67 then 64 - c else 0
def numsG (s : ByteArray) (k : Nat) : List Int := (s.data.toList.take k).map fun c => numG (c.toNat : Int)
theorem numsG_snoc (s : ByteArray) (k : Nat) (h : k < s.size) : numsG s (k + 1) = numsG s k ++ [numG (s[k].toNat : Int)] := by
  unfold numsG; rw [take_snoc s k h, List.map_append]; rfl
theorem numsG_length (s : ByteArray) (k : Nat) (h : k ≤ s.size) : (numsG s k).length = k := by
  have e : s.data.toList.length = s.size := by show s.data.toList.length = s.data.size; simp
  unfold numsG; rw [List.length_map, List.length_take, e]; omega
theorem numsG_get (s : ByteArray) (k : Nat) (h : k < s.size) : (numsG s s.size)[k]'(by rw [numsG_length s s.size (Nat.le_refl _)]; exact h) = numG (s[k].toNat : Int) := by
  have h1 : (numsG s s.size)[k]? = some (numG (s[k].toNat : Int)) := by
    have e1 : (numsG s (k + 1))[k]? = some (numG (s[k].toNat : Int)) := by
      rw [numsG_snoc s k h, List.getElem?_append_right (by rw [numsG_length s k (by omega)]; exact Nat.le_refl _), numsG_length s k (by omega)]
      simp
    rw [← e1]
    unfold numsG
    rw [List.getElem?_map, List.getElem?_map, List.getElem?_take, List.getElem?_take, if_pos h, if_pos (Nat.lt_succ_self k)]
  exact (List.getElem?_eq_some_iff.1 h1).2
/-- what is told of a text -/
def ParT (d : Int) (s : ByteArray) (rs : List Int) (c : Int) : Prop := (grpB d (numsG s s.size) = true → rs = numsG s s.size ∧ c = 0) ∧ (grpB d (numsG s s.size) = false → rs = [] ∧ c = 6)
theorem parT_bad {d : Int} {s : ByteArray} {rs : List Int} {c : Int} (h : ParT d s rs c) (k : Nat) (hk : k < s.size) (h0 : numG (s[k].toNat : Int) = 0) : rs = [] ∧ c = 6 :=
  h.2 (grpB_no k (by rw [numsG_length s s.size (Nat.le_refl _)]; exact hk) (by rw [numsG_get s k hk, h0]; simp [gltB]))

theorem idx_facts : ∀ n : Fin 256, -1 ≤ Lib.indexByte [97, 98, 99] (UInt8.ofNat n.val) ∧ Lib.indexByte [97, 98, 99] (UInt8.ofNat n.val) ≤ 2 ∧ -1 ≤ Lib.indexByte [65, 66, 67] (UInt8.ofNat n.val) ∧ Lib.indexByte [65, 66, 67] (UInt8.ofNat n.val) ≤ 2 ∧
    numG (n.val : Int) = if 0 ≤ Lib.indexByte [97, 98, 99] (UInt8.ofNat n.val) then Lib.indexByte [97, 98, 99] (UInt8.ofNat n.val) + 1 else -(Lib.indexByte [65, 66, 67] (UInt8.ofNat n.val)) - 1 := by decide +kernel

theorem numberOfByte_c (c : UInt8) (w : World) :
    Calls Try.prog 57 #[.int .u8 (c.toNat : Int)] w fun e w' => e = .returned (.int .i64 (numG (c.toNat : Int))) ∧ w = w' := by
  obtain ⟨h1, h2, h3, h4, h5⟩ := idx_facts ⟨c.toNat, c.toNat_lt⟩
  have ec : ((c.toNat : Int).toNat.toUInt8) = UInt8.ofNat c.toNat := rfl
  simp only at h1 h2 h3 h4 h5
  have HA := Lib.hid (Try.strings_IndexByte { data := #[97, 98, 99] } (c.toNat : Int) w)
  have HB := Lib.hid (Try.strings_IndexByte { data := #[65, 66, 67] } (c.toNat : Int) w)
  rw [ec] at HA HB
  rw [show ({ data := #[97, 98, 99] } : ByteArray).data.toList = [97, 98, 99] from rfl] at HA
  rw [show ({ data := #[65, 66, 67] } : ByteArray).data.toList = [65, 66, 67] from rfl] at HB
  generalize Lib.indexByte [97, 98, 99] (UInt8.ofNat c.toNat) = i at *
  generalize Lib.indexByte [65, 66, 67] (UInt8.ofNat c.toNat) = j at *
  have HN := Lib.hid h5
  clear h5 ec
  by_cases hi : 0 ≤ i
  · rw [if_pos hi] at HN
    go_enter Try.func57, Try.ntmps57
    go_wp2_with fail
    refine HA.out.mono ?_
    rintro e w' ⟨rfl, rfl⟩
    go_wp2
    go_ret
    exact ⟨by first | (rw [HN.out]; done) | (rw [HN.out]; rfl), rfl⟩
  · rw [if_neg hi] at HN
    go_enter Try.func57, Try.ntmps57
    go_wp2_with fail
    refine HA.out.mono ?_
    rintro e w' ⟨rfl, rfl⟩
    go_wp2_with fail
    refine HB.out.mono ?_
    rintro e w' ⟨rfl, rfl⟩
    go_wp2
    go_ret
    exact ⟨by first | (rw [HN.out]; done) | (rw [HN.out]; rfl), rfl⟩

section
variable (d : Int) (s : ByteArray) (hs : s.size ≤ 1048576) (w : World)
theorem sParseGroup_1 (h : inB d 1 3 = false) : Calls Try.prog 38 #[.int .i64 d, .string s] w (NumsPost [] 2 w) := by
  go_enter Try.func38, Try.ntmps38
  go_wp2_with (go_at_call 56; refine (l01In_c _ _ _ _).mono ?_; rw [h]; rintro e w' ⟨rfl, rfl⟩)
  go_ret2
  exact ⟨none, 0, rfl, Below.refl _ _, .inl rfl⟩
theorem iParseGroup_1 (h : inB d 1 3 = false) : Calls Try.prog 39 #[.int .i64 d, .string s] w (NumsPost [] 2 w) := by
  go_enter Try.func39, Try.ntmps39
  go_wp2_with (go_at_call 41; refine (isBetween_c _ _ _ _).mono ?_; rw [h]; rintro e w' ⟨rfl, rfl⟩)
  go_ret2
  exact ⟨none, 0, rfl, Below.refl _ _, .inl rfl⟩

include hs
set_option maxRecDepth 100000 in
set_option maxHeartbeats 4000000 in
theorem iParseGroup_2 (h : inB d 1 3 = true) (rs : List Int) (c : Int) (hp : ParT d s rs c) : Calls Try.prog 39 #[.int .i64 d, .string s] w (NumsPost rs c w) := by
  have HP := Lib.hid hp
  have HL := Lib.hid h
  have HS := Lib.hid (fun k (hk : k < s.size) => numsG_snoc s k hk)
  have HN := Lib.hid (fun k (hk : k ≤ s.size) => numsG_length s k hk)
  clear hp h
  go_enter Try.func39, Try.ntmps39
  go_wp2_with (go_at_call 41; refine (isBetween_c _ _ _ _).mono ?_; rw [HL.out]; rintro e w' ⟨rfl, rfl⟩)
  go_loopw [6, 13] (fun vs vi wr => ∃ (k q : Nat) (a' : Option Addr), k ≤ s.size ∧ vi = .int .i64 k ∧ vs = .slice a' k q ∧ Below w.heap.size w wr ∧ OwnI wr w.heap.size (.slice a' k q) (numsG s k)) (fun _ vi _ => s.size - (intOf vi).toNat)
  case atStart => exact ⟨0, 0, none, Nat.zero_le _, rfl, rfl, Below.refl _ _, by simpa [numsG] using OwnI.nil w w.heap.size⟩
  case round =>
    obtain ⟨k, q, a', hk, rfl, rfl, hB, hO⟩ := hrel
    have hzr := hB.size
    have HB := Lib.hid hB
    have HO := Lib.hid hO
    clear hB hO
    by_cases hlt : k < s.size
    · have HSk := Lib.hid (HS.out k hlt)
      have HNk := Lib.hid (HN.out k hk)
      go_wp2_with fail
      refine (numberOfByte_c _ _).mono ?_
      rintro e w' ⟨rfl, rfl⟩
      go_wp2_with (at_builtin; refine wpList_append_ints rfl _ _ rfl w.heap.size (.slice a' k q) k (numsG s k) [_] rfl HNk.out.symm (HO.out.alloc _) _ 1 1 rfl rfl (.inr ⟨_, 0, rfl, ints_one _ _⟩) (by omega) (by simp; omega) ?_)
      intro a4 c4 w4 hO4 hG4 _
      have HB4 := Lib.hid (HB.out.trans (((below1 _ _).mono (by exact hzr)).trans (own_grownI (by exact OwnI.alloc (by exact HO.out) _) hG4 (by simp; omega))))
      have HO4 := Lib.hid hO4
      clear hO4 hG4
      go_wp2
      go_roundw
      case rel => exact ⟨k + 1, c4, a4, by omega, by go_num, rfl, HB4.out, by rw [HSk.out]; exact HO4.out⟩
      case measure => simp [intOf]; omega
    · obtain rfl : k = s.size := by omega
      have hlz := HN.out s.size (Nat.le_refl _)
      have HT := HO.out.at_.2
      obtain ⟨z, hz⟩ : ∃ z, numsG s s.size = z := ⟨_, rfl⟩
      unfold ParT at HP
      rw [hz] at HP HT hlz
      have hI := iIsGroupWord_c w.heap.size wr.heap.size d a' q z (by omega) wr HT.row
      rw [hlz] at hI
      have HI := Lib.hid hI
      have HZl := Lib.hid hlz
      clear hI hlz
      have HTh := Lib.hid HT
      clear hz HT HO HN HS
      cases hg : grpB d z with
      | true =>
        rw [hg] at HI
        obtain ⟨rfl, rfl⟩ := HP.out.1 hg
        clear HP
        go_wp2_with (go_at_call 15; refine HI.out.mono ?_; rintro e w' ⟨rfl, rfl⟩)
        go_ret2
        exact ⟨a', q, by first | (rw [HZl.out]; done) | (rw [HZl.out]; rfl), HB.out, HTh.out⟩
      | false =>
        rw [hg] at HI
        obtain ⟨rfl, rfl⟩ := HP.out.2 hg
        clear HP
        go_wp2_with (go_at_call 15; refine HI.out.mono ?_; rintro e w' ⟨rfl, rfl⟩)
        go_ret2
        exact ⟨none, 0, rfl, HB.out, .inl rfl⟩

set_option maxRecDepth 100000 in
set_option maxHeartbeats 4000000 in
theorem sParseGroup_2 (h : inB d 1 3 = true) (rs : List Int) (c : Int) (hp : ParT d s rs c) : Calls Try.prog 38 #[.int .i64 d, .string s] w (NumsPost rs c w) := by
  have HP := Lib.hid hp
  have HL := Lib.hid h
  have HS := Lib.hid (fun k (hk : k < s.size) => numsG_snoc s k hk)
  have HN := Lib.hid (fun k (hk : k ≤ s.size) => numsG_length s k hk)
  have HBad := Lib.hid (fun k (hk : k < s.size) h0 => parT_bad hp k hk h0)
  clear hp h
  go_enter Try.func38, Try.ntmps38
  go_wp2_with (go_at_call 56; refine (l01In_c _ _ _ _).mono ?_; rw [HL.out]; rintro e w' ⟨rfl, rfl⟩)
  go_loopw [6, 7] (fun vs vi wr => ∃ (k q : Nat) (a' : Option Addr), k ≤ s.size ∧ vi = .int .i64 k ∧ vs = .slice a' k q ∧ Below w.heap.size w wr ∧ OwnI wr w.heap.size (.slice a' k q) (numsG s k)) (fun _ vi _ => s.size - (intOf vi).toNat)
  case atStart => exact ⟨0, 0, _, Nat.zero_le _, rfl, rfl, below1 _ _, by simpa [numsG] using OwnI.emptyRow (heap_alloc_new w _) (Nat.le_refl _)⟩
  case round =>
    obtain ⟨k, q, a', hk, rfl, rfl, hB, hO⟩ := hrel
    have hzr := hB.size
    have HB := Lib.hid hB
    have HO := Lib.hid hO
    clear hB hO
    by_cases hlt : k < s.size
    · have HSk := Lib.hid (HS.out k hlt)
      have HNk := Lib.hid (HN.out k hk)
      have HBk := Lib.hid (HBad.out k hlt)
      by_cases h97 : (97 : Int) ≤ (s[k].toNat : Int)
      · by_cases h99 : (s[k].toNat : Int) ≤ 99
        · have HV := Lib.hid (show numG (s[k].toNat : Int) = (s[k].toNat : Int) - 97 + 1 from by unfold numG; rw [if_pos ⟨h97, h99⟩]; omega)
          go_wp2_with (at_builtin; refine wpList_append_ints rfl _ _ rfl w.heap.size (.slice a' k q) k (numsG s k) [_] rfl HNk.out.symm (HO.out.alloc _) _ 1 1 rfl rfl (.inr ⟨_, 0, rfl, ints_one _ _⟩) (by omega) (by simp; omega) ?_)
          intro a4 c4 w4 hO4 hG4 _
          have HB4 := Lib.hid (HB.out.trans (((below1 _ _).mono (by exact hzr)).trans (own_grownI (by exact OwnI.alloc (by exact HO.out) _) hG4 (by simp; omega))))
          have HO4 := Lib.hid hO4
          clear hO4 hG4
          go_wp2
          go_roundw
          case rel => exact ⟨k + 1, c4, a4, by omega, by go_num, rfl, HB4.out, by rw [HSk.out, HV.out]; exact HO4.out⟩
          case measure => simp [intOf]; omega
        · have h67 : ¬ (s[k].toNat : Int) ≤ 67 := by omega
          have h65 : (65 : Int) ≤ (s[k].toNat : Int) := by omega
          obtain ⟨e1, e2⟩ := HBk.out (by unfold numG; rw [if_neg (by omega), if_neg (by omega)])
          have HE := Lib.hid (And.intro e1 e2)
          clear e1 e2 HBk
          go_wp2
          go_ret2
          obtain ⟨rfl, rfl⟩ := HE.out
          exact ⟨none, 0, rfl, HB.out, .inl rfl⟩
      · by_cases h65 : (65 : Int) ≤ (s[k].toNat : Int)
        · by_cases h67 : (s[k].toNat : Int) ≤ 67
          · have HV := Lib.hid (show numG (s[k].toNat : Int) = -((s[k].toNat : Int) - 65) - 1 from by unfold numG; rw [if_neg (by omega), if_pos ⟨h65, h67⟩]; omega)
            go_wp2_with (at_builtin; refine wpList_append_ints rfl _ _ rfl w.heap.size (.slice a' k q) k (numsG s k) [_] rfl HNk.out.symm (HO.out.alloc _) _ 1 1 rfl rfl (.inr ⟨_, 0, rfl, ints_one _ _⟩) (by omega) (by simp; omega) ?_)
            intro a4 c4 w4 hO4 hG4 _
            have HB4 := Lib.hid (HB.out.trans (((below1 _ _).mono (by exact hzr)).trans (own_grownI (by exact OwnI.alloc (by exact HO.out) _) hG4 (by simp; omega))))
            have HO4 := Lib.hid hO4
            clear hO4 hG4
            go_wp2
            go_roundw
            case rel => exact ⟨k + 1, c4, a4, by omega, by go_num, rfl, HB4.out, by rw [HSk.out, HV.out]; exact HO4.out⟩
            case measure => simp [intOf]; omega
          · obtain ⟨e1, e2⟩ := HBk.out (by unfold numG; rw [if_neg (by omega), if_neg (by omega)])
            have HE := Lib.hid (And.intro e1 e2)
            clear e1 e2 HBk
            go_wp2
            go_ret2
            obtain ⟨rfl, rfl⟩ := HE.out
            exact ⟨none, 0, rfl, HB.out, .inl rfl⟩
        · obtain ⟨e1, e2⟩ := HBk.out (by unfold numG; rw [if_neg (by omega), if_neg (by omega)])
          have HE := Lib.hid (And.intro e1 e2)
          clear e1 e2 HBk
          go_wp2
          go_ret2
          obtain ⟨rfl, rfl⟩ := HE.out
          exact ⟨none, 0, rfl, HB.out, .inl rfl⟩
    · obtain rfl : k = s.size := by omega
      have hlz := HN.out s.size (Nat.le_refl _)
      have HT := HO.out.at_.2
      obtain ⟨z, hz⟩ : ∃ z, numsG s s.size = z := ⟨_, rfl⟩
      unfold ParT at HP
      rw [hz] at HP HT hlz
      have hI := l09Is_c w.heap.size wr.heap.size d a' q z (by omega) wr HT.row
      rw [hlz] at hI
      have HI := Lib.hid hI
      have HZl := Lib.hid hlz
      clear hI hlz
      have HTh := Lib.hid HT
      clear hz HT HO HN HS HBad
      cases hg : grpB d z with
      | true =>
        rw [hg] at HI
        obtain ⟨rfl, rfl⟩ := HP.out.1 hg
        clear HP
        go_wp2_with (go_at_call 40; refine HI.out.mono ?_; rintro e w' ⟨rfl, rfl⟩)
        go_ret2
        exact ⟨a', q, by first | (rw [HZl.out]; done) | (rw [HZl.out]; rfl), HB.out, HTh.out⟩
      | false =>
        rw [hg] at HI
        obtain ⟨rfl, rfl⟩ := HP.out.2 hg
        clear HP
        go_wp2_with (go_at_call 40; refine HI.out.mono ?_; rintro e w' ⟨rfl, rfl⟩)
        go_ret2
        exact ⟨none, 0, rfl, HB.out, .inl rfl⟩
end
end Go.Proofs.Ytnhiceopgjfaaaa
