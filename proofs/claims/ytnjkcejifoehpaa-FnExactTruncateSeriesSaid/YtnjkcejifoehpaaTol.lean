/-
  The places of lengths: the binary search of the library at an int64, and indexOfLength of the program.
  The terms of a length, as the program cuts them out of a list.
-/
import Derived.Test.YtnjkcejifoehpaaBin
namespace Go.Proofs.Ytnjkcejifoehpaa
open Go.RowKit

theorem less_len {a b : List UInt8} (h : lessL a b = true) : a.length ≤ b.length := by
  unfold lessL at h
  by_cases e : a.length = b.length
  · omega
  · rw [if_neg e] at h
    simp only [decide_eq_true_eq] at h; omega
/-- the place at which words of a length begin -/
def LPlace (ts : List Tm) (n : Int) (i : Nat) : Prop := i ≤ ts.length ∧ (∀ j (h : j < ts.length), j < i → ((ts[j]).s.size : Int) < n) ∧ (∀ j (h : j < ts.length), i ≤ j → n ≤ ((ts[j]).s.size : Int))
theorem asc_len {ts : List Tm} (ha : Asc ts) : ∀ i j (hj : j < ts.length) (hij : i < j), (ts[i]'(Nat.lt_trans hij hj)).s.size ≤ (ts[j]).s.size := fun i j hj hij => by
  have h := less_len (ha i j hj hij)
  simpa using h

theorem cmpInt64_c (a b : Int) (w : World) :
    Calls Try.prog 45 #[.int .i64 a, .int .i64 b] w fun e w' => e = .returned (.int .i64 (if a < b then -1 else if b < a then 1 else 0)) ∧ w = w' := by
  by_cases h1 : a < b
  · go_enter Try.func45, Try.ntmps45
    go_wp2
    go_ret
    exact ⟨rfl, rfl⟩
  · by_cases h2 : b < a
    · go_enter Try.func45, Try.ntmps45
      go_wp2
      go_ret
      exact ⟨rfl, rfl⟩
    · go_enter Try.func45, Try.ntmps45
      go_wp2
      go_ret
      exact ⟨rfl, rfl⟩

def cmpI (a b : Int) : Int := if a < b then -1 else if b < a then 1 else 0
theorem cmpI_lt {a b : Int} (h : a < b) : cmpI a b < 0 := by simp [cmpI, h]
theorem cmpI_ge {a b : Int} (h : b ≤ a) : 0 ≤ cmpI a b := by
  unfold cmpI
  rw [if_neg (by omega)]
  split <;> omega

theorem lenClosure_c (s : ByteArray) (_hs : s.size ≤ maxLen) (n d m : Int) (w : World) :
    Calls Try.prog 44 #[.agg #[.string s, .int .i64 n, .int .i64 d], .int .i64 m] w fun e w' => e = .returned (.int .i64 (cmpI s.size m)) ∧ Below w.heap.size w w' := by
  unfold maxLen at _hs
  have HC : Hid (cmpI s.size m = if (s.size : Int) < m then -1 else if m < (s.size : Int) then 1 else 0) := Lib.hid rfl
  go_enter Try.func44, Try.ntmps44
  go_wp2_with fail
  refine (cmpInt64_c _ _ _).mono ?_
  rw [← HC.out]
  rintro e w' ⟨rfl, rfl⟩
  go_wp2
  go_ret
  exact ⟨rfl, below1 _ _⟩

def LPost (ts : List Tm) (n : Int) (W : World) (e : Ending) (w' : World) : Prop :=
  ∃ (i : Nat) (f : Bool), LPlace ts n i ∧ e = .returned (.tuple #[.int .i64 i, .bool f]) ∧ Below W.heap.size W w'

theorem binLen_c (b off cap : Nat) (ts : List Tm) (hl : ts.length ≤ 1048576) (hs : ∀ i (h : i < ts.length), (ts[i]).s.size ≤ maxLen) (m : Int) (ha : Asc ts) (w : World) (hb : b < w.heap.size) (ht : TermsIn w b off ts) :
    Calls Try.prog 43 #[.slice (some ⟨b, off, none⟩) ts.length cap, .int .i64 m, .func (.func 44) #[] #[]] w (LPost ts m w) := by
  have HT := Lib.hid ht
  have HA := Lib.hid (asc_len ha)
  have HS := Lib.hid hs
  clear ht ha hs
  go_enter Try.func43, Try.ntmps43
  go_wp2
  go_loopw [9, 10] (fun v9 v10 wr => ∃ lo hi : Nat, v9 = .int .i64 lo ∧ v10 = .int .i64 hi ∧ lo ≤ hi ∧ hi ≤ ts.length ∧ (∀ j (h : j < ts.length), j < lo → ((ts[j]).s.size : Int) < m) ∧ (∀ j (h : j < ts.length), hi ≤ j → m ≤ ((ts[j]).s.size : Int)) ∧ Below w.heap.size w wr) (fun v9 v10 _ => (intOf v10).toNat - (intOf v9).toNat)
  case atStart => exact ⟨0, ts.length, rfl, rfl, Nat.zero_le _, Nat.le_refl _, fun j _ h => by omega, fun j h1 h2 => by omega, Below.refl _ _⟩
  case round =>
    obtain ⟨lo, hi, rfl, rfl, hlh, hin, hlow, hhigh, hB⟩ := hrel
    have HL := Lib.hid hlow
    have HH := Lib.hid hhigh
    have HB := Lib.hid hB
    have hTr := HT.out.below hB hb
    have HTr := Lib.hid hTr
    clear hlow hhigh hB hTr
    by_cases hlt : lo < hi
    · obtain ⟨c0, c1, c2⟩ := HTr.out ((lo + hi) / 2) (by omega)
      have hsz := HS.out ((lo + hi) / 2) (by omega)
      obtain ⟨t, het⟩ : ∃ t, ts[(lo + hi) / 2]'(by omega) = t := ⟨_, rfl⟩
      rw [het] at c0 c1 c2 hsz
      have HE := Lib.hid het
      clear het
      obtain ⟨s, n, d⟩ := t
      simp only at c0 c1 c2 hsz
      have hm : (lo + hi) / 2 < ts.length := by omega
      have em : ((lo : Int) + (hi : Int)) / 2 = (((lo + hi) / 2 : Nat) : Int) := by omega
      have Em := Lib.hid em
      clear em
      by_cases hles : (s.size : Int) < m
      · have hlt0 := cmpI_lt hles
        have HN : Hid (∀ j (h : j < ts.length), j < (lo + hi) / 2 + 1 → ((ts[j]).s.size : Int) < m) := Lib.hid (fun j hj hjm => by
          by_cases e : j = (lo + hi) / 2
          · subst e; rw [HE.out]; exact hles
          · have h1 := HA.out j ((lo + hi) / 2) hm (by omega)
            rw [HE.out] at h1
            simp only at h1; omega)
        clear hles
        go_wp2_with fail
        refine (lenClosure_c _ hsz _ _ _ _).mono ?_
        rintro e w1 ⟨rfl, hb1⟩
        have HB1 := Lib.hid (HB.out.trans (hb1.mono HB.out.size))
        clear hb1 c0 c1 c2
        go_wp2
        go_roundw
        case rel => exact ⟨(lo + hi) / 2 + 1, hi, by rw [Em.out]; go_num, rfl, by omega, hin, HN.out, HH.out, HB1.out⟩
        case measure => simp [intOf]; omega
      · have hge0 := cmpI_ge (Int.not_lt.1 hles)
        have HN : Hid (∀ j (h : j < ts.length), (lo + hi) / 2 ≤ j → m ≤ ((ts[j]).s.size : Int)) := Lib.hid (fun j hj hjm => by
          by_cases e : (lo + hi) / 2 = j
          · subst e; rw [HE.out]; simp only; omega
          · have h1 := HA.out ((lo + hi) / 2) j hj (by omega)
            rw [HE.out] at h1
            simp only at h1; omega)
        clear hles
        go_wp2_with fail
        refine (lenClosure_c _ hsz _ _ _ _).mono ?_
        rintro e w1 ⟨rfl, hb1⟩
        have HB1 := Lib.hid (HB.out.trans (hb1.mono HB.out.size))
        clear hb1 c0 c1 c2
        go_wp2
        go_roundw
        case rel => exact ⟨lo, (lo + hi) / 2, rfl, by rw [Em.out], by omega, by omega, HL.out, HN.out, HB1.out⟩
        case measure => simp [intOf]; omega
    · obtain rfl : hi = lo := by omega
      have HP : Hid (LPlace ts m hi) := Lib.hid ⟨hin, HL.out, HH.out⟩
      by_cases hn : hi < ts.length
      · obtain ⟨c0, c1, c2⟩ := HTr.out hi hn
        have hsz := HS.out hi hn
        obtain ⟨t, het⟩ : ∃ t, ts[hi] = t := ⟨_, rfl⟩
        rw [het] at c0 c1 c2 hsz
        clear het
        obtain ⟨s, n, d⟩ := t
        simp only at c0 c1 c2 hsz
        go_wp2_with fail
        refine (lenClosure_c _ hsz _ _ _ _).mono ?_
        rintro e w1 ⟨rfl, hb1⟩
        have HB1 := Lib.hid (HB.out.trans (hb1.mono HB.out.size))
        clear hb1 c0 c1 c2
        go_wp2
        go_ret2
        exact ⟨hi, _, HP.out, rfl, HB1.out⟩
      · go_wp2
        go_ret2
        exact ⟨hi, _, HP.out, rfl, HB.out⟩

/-- what indexOfLength comes to -/
def IPost (ts : List Tm) (n : Int) (W : World) (e : Ending) (w' : World) : Prop :=
  ∃ i : Nat, LPlace ts n i ∧ e = .returned (.int .i64 i) ∧ Below W.heap.size W w'
theorem indexOfLength_c (b off cap : Nat) (ts : List Tm) (hl : ts.length ≤ 1048576) (hs : ∀ i (h : i < ts.length), (ts[i]).s.size ≤ maxLen) (m : Int) (ha : Asc ts) (w : World) (hb : b < w.heap.size) (ht : TermsIn w b off ts) :
    Calls Try.prog 27 #[.slice (some ⟨b, off, none⟩) ts.length cap, .int .i64 m] w (IPost ts m w) := by
  have HT := Lib.hid ht
  have HA := Lib.hid ha
  have HS := Lib.hid hs
  clear ht ha hs
  go_enter Try.func27, Try.ntmps27
  go_wp2_with fail
  refine (binLen_c b off cap ts hl HS.out m HA.out w hb HT.out).mono ?_
  rintro e w1 ⟨i, f, hp, rfl, hB⟩
  have HP := Lib.hid hp
  clear hp
  go_wp2
  go_ret
  exact ⟨i, HP.out, rfl, hB⟩
end Go.Proofs.Ytnjkcejifoehpaa

namespace Go.Proofs.Ytnjkcejifoehpaa
open Go.RowKit

def partL (m : Int) (ts : List Tm) : List Tm := ts.filter fun t => decide ((t.s.size : Int) = m)
theorem places_le {ts : List Tm} {m : Int} {i j : Nat} (h1 : LPlace ts m i) (h2 : LPlace ts (m + 1) j) : i ≤ j := by
  by_cases h : i ≤ j
  · exact h
  · have a := h1.2.1 j (by have := h1.1; omega) (by omega)
    have b := h2.2.2 j (by have := h1.1; omega) (Nat.le_refl _)
    omega
theorem part_eq {ts : List Tm} {m : Int} {i j : Nat} (h1 : LPlace ts m i) (h2 : LPlace ts (m + 1) j) : (ts.drop i).take (j - i) = partL m ts := by
  have hij := places_le h1 h2
  have hj := h2.1
  have e : ts = ts.take i ++ ((ts.drop i).take (j - i) ++ ts.drop j) := by
    have e1 : ts.drop j = (ts.drop i).drop (j - i) := by rw [List.drop_drop]; congr 1; omega
    rw [e1, List.take_append_drop, List.take_append_drop]
  have f1 : (ts.take i).filter (fun t => decide ((t.s.size : Int) = m)) = [] := by
    rw [List.filter_eq_nil_iff]
    intro t ht
    obtain ⟨k, hk, rfl⟩ := List.getElem_of_mem ht
    rw [List.length_take] at hk
    rw [List.getElem_take]
    have := h1.2.1 k (by omega) (by omega)
    simp; omega
  have f2 : ((ts.drop i).take (j - i)).filter (fun t => decide ((t.s.size : Int) = m)) = (ts.drop i).take (j - i) := by
    rw [List.filter_eq_self]
    intro t ht
    obtain ⟨k, hk, rfl⟩ := List.getElem_of_mem ht
    rw [List.length_take, List.length_drop] at hk
    rw [List.getElem_take, List.getElem_drop]
    have a := h1.2.2 (i + k) (by omega) (by omega)
    have b := h2.2.1 (i + k) (by omega) (by omega)
    simp; omega
  have f3 : (ts.drop j).filter (fun t => decide ((t.s.size : Int) = m)) = [] := by
    rw [List.filter_eq_nil_iff]
    intro t ht
    obtain ⟨k, hk, rfl⟩ := List.getElem_of_mem ht
    rw [List.length_drop] at hk
    rw [List.getElem_drop]
    have := h2.2.2 (j + k) (by omega) (by omega)
    simp; omega
  unfold partL
  conv => rhs; rw [e]
  rw [List.filter_append, List.filter_append, f1, f2, f3, List.append_nil, List.nil_append]
theorem cut_terms {w : World} {b off : Nat} {ts : List Tm} {i n : Nat} (h : TermsIn w b off ts) (hin : i + n ≤ ts.length) : TermsIn w b (off + i * 3) ((ts.drop i).take n) := by
  intro k hk
  have hk2 : k < n := by rw [List.length_take] at hk; omega
  have g := h (i + k) (by omega)
  rw [List.getElem_take, List.getElem_drop]
  have e : off + i * 3 + k * 3 = off + (i + k) * 3 := by omega
  rw [e]
  exact g

/-- what termsOfLength comes to: a part of the row that came in -/
def CutPost (b : Nat) (ps : List Tm) (W : World) (e : Ending) (w' : World) : Prop :=
  ∃ o, e = .returned (.slice (some ⟨b, o, none⟩) ps.length ps.length) ∧ TermsIn w' b o ps ∧ Below W.heap.size W w'

theorem termsOfLength_c (b off cap : Nat) (ts : List Tm) (hl : ts.length ≤ 1048576) (hcap : ts.length ≤ cap) (hs : ∀ i (h : i < ts.length), (ts[i]).s.size ≤ maxLen) (m : Int) (hm : 0 ≤ m ∧ m ≤ 5) (ha : Asc ts) (w : World) (hb : b < w.heap.size) (ht : TermsIn w b off ts) :
    Calls Try.prog 22 #[.slice (some ⟨b, off, none⟩) ts.length cap, .int .i64 m] w (CutPost b (partL m ts) w) := by
  have HT := Lib.hid ht
  have HA := Lib.hid ha
  have HS := Lib.hid hs
  clear ht ha hs
  go_enter Try.func22, Try.ntmps22
  go_wp2_with fail
  refine (indexOfLength_c b off cap ts hl HS.out m HA.out w hb HT.out).mono ?_
  rintro e w1 ⟨i, hp, rfl, hB⟩
  have HP := Lib.hid hp
  have hi := hp.1
  clear hp
  go_wp2_with fail
  refine (indexOfLength_c b off cap ts hl HS.out (m + 1) HA.out w1 (Nat.lt_of_lt_of_le hb hB.size) (HT.out.below hB hb)).mono ?_
  rintro e w2 ⟨j, hp2, rfl, hB2⟩
  have HE := Lib.hid (part_eq HP.out hp2)
  have hij : i ≤ j := places_le HP.out hp2
  have hj := hp2.1
  clear hp2
  have HW := Lib.hid (hB.trans (hB2.mono hB.size))
  have HL : Hid ((partL m ts).length = j - i) := Lib.hid (by rw [← HE.out, List.length_take, List.length_drop]; omega)
  have HC := Lib.hid (cut_terms (i := i) (n := j - i) (HT.out.below HW.out hb) (by omega))
  clear hB hB2
  go_wp2
  all_goals go_ret
  all_goals first
    | exact ⟨off + i * 3, by rw [HL.out]; rfl, by have h := HC.out; rwa [HE.out] at h, HW.out⟩
    | (have h0 : (partL m ts).length = 0 := by rw [HL.out]; omega
       exact ⟨off, by rw [h0]; rfl, fun k hk => by rw [h0] at hk; exact absurd hk (Nat.not_lt_zero _), HW.out⟩)
end Go.Proofs.Ytnjkcejifoehpaa
