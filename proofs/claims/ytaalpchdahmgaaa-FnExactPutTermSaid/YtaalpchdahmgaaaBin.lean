/-
  The binary search of the library at terms, and findTerm of the program.
-/
import Derived.Test.YtaalpchdahmgaaaFind
namespace Go.Proofs.Ytaalpchdahmgaaa
open Go.RowKit

/-- what the search comes to: a place, and whether the word stands there -/
def FindPost (ts : List Tm) (w0 : List UInt8) (W : World) (e : Ending) (w' : World) : Prop :=
  ∃ i : Nat, Place ts w0 i ∧ e = .returned (.tuple #[.int .i64 i, .bool (match ts[i]? with | some t => decide (t.s.data.toList = w0) | none => false)]) ∧ Below W.heap.size W w'

theorem low_step {ts : List Tm} {w0 : List UInt8} {m : Nat} (ha : Asc ts) (hm : m < ts.length) (h : lessL (ts[m]).s.data.toList w0 = true) : ∀ j (hj : j < ts.length), j < m + 1 → lessL (ts[j]).s.data.toList w0 = true := fun j hj hjm => by
  by_cases e : j = m
  · subst e; exact h
  · exact lessL_trans (ha j m hm (by omega)) h
theorem high_step {ts : List Tm} {w0 : List UInt8} {m : Nat} (ha : Asc ts) (hm : m < ts.length) (h : lessL (ts[m]).s.data.toList w0 = false) : ∀ j (hj : j < ts.length), m ≤ j → lessL (ts[j]).s.data.toList w0 = false := fun j hj hjm => by
  by_cases e : m = j
  · subst e; exact h
  · cases hl : lessL (ts[j]).s.data.toList w0 with
    | false => rfl
    | true => rw [lessL_trans (ha m j hj (by omega)) hl] at h; cases h
theorem cmp_ge {a b : List UInt8} (h : lessL a b = false) : 0 ≤ cmpL a b := by
  by_cases h1 : cmpL a b < 0
  · rw [(lessL_cmp a b).1 h1] at h; cases h
  · omega

theorem binSearch_c (b off cap : Nat) (ts : List Tm) (hl : ts.length ≤ 1048576) (w0 : ByteArray) (ha : Asc ts) (w : World) (hb : b < w.heap.size) (ht : TermsIn w b off ts) :
    Calls Try.prog 94 #[.slice (some ⟨b, off, none⟩) ts.length cap, .string w0, .func (.func 95) #[] #[]] w (FindPost ts w0.data.toList w) := by
  have HT := Lib.hid ht
  have HA := Lib.hid ha
  clear ht ha
  go_enter Try.func94, Try.ntmps94
  go_wp2
  go_loopw [9, 10] (fun v9 v10 wr => ∃ lo hi : Nat, v9 = .int .i64 lo ∧ v10 = .int .i64 hi ∧ lo ≤ hi ∧ hi ≤ ts.length ∧ (∀ j (h : j < ts.length), j < lo → lessL (ts[j]).s.data.toList w0.data.toList = true) ∧ (∀ j (h : j < ts.length), hi ≤ j → lessL (ts[j]).s.data.toList w0.data.toList = false) ∧ Below w.heap.size w wr) (fun v9 v10 _ => (intOf v10).toNat - (intOf v9).toNat)
  case atStart => exact ⟨0, ts.length, rfl, rfl, Nat.zero_le _, Nat.le_refl _, fun j _ h => by omega, fun j h1 h2 => by omega, Below.refl _ _⟩
  case round =>
    obtain ⟨lo, hi, rfl, rfl, hlh, hin, hlow, hhigh, hB⟩ := hrel
    have HL := Lib.hid hlow
    have HH := Lib.hid hhigh
    have HB := Lib.hid hB
    have hTr := HT.out.below hB hb
    have HTr := Lib.hid hTr
    clear hlow hhigh hB hTr
    by_cases hlt : lo < hi
    · obtain ⟨c0, c1, c2⟩ := HTr.out ((lo + hi) / 2) (by omega)
      obtain ⟨t, het⟩ : ∃ t, ts[(lo + hi) / 2]'(by omega) = t := ⟨_, rfl⟩
      rw [het] at c0 c1 c2
      have HE := Lib.hid het
      clear het
      obtain ⟨s, n, d⟩ := t
      simp only at c0 c1 c2
      have hm : (lo + hi) / 2 < ts.length := by omega
      have em : ((lo : Int) + (hi : Int)) / 2 = (((lo + hi) / 2 : Nat) : Int) := by omega
      have Em := Lib.hid em
      clear em
      cases hles : lessL s.data.toList w0.data.toList with
      | true =>
        have hlt0 : cmpL s.data.toList w0.data.toList < 0 := (lessL_cmp _ _).2 hles
        have HN := Lib.hid (low_step HA.out hm (by rw [HE.out]; exact hles))
        clear hles
        go_wp2_with fail
        refine (findClosure_c _ _ _ _ _).mono ?_
        rintro e w1 ⟨rfl, hb1⟩
        have HB1 := Lib.hid (HB.out.trans (hb1.mono HB.out.size))
        clear hb1 c0 c1 c2
        go_wp2
        go_roundw
        case rel => exact ⟨(lo + hi) / 2 + 1, hi, by rw [Em.out]; go_num, rfl, by omega, hin, HN.out, HH.out, HB1.out⟩
        case measure => simp [intOf]; omega
      | false =>
        have hge0 : 0 ≤ cmpL s.data.toList w0.data.toList := cmp_ge hles
        have HN := Lib.hid (high_step HA.out hm (by rw [HE.out]; exact hles))
        clear hles
        go_wp2_with fail
        refine (findClosure_c _ _ _ _ _).mono ?_
        rintro e w1 ⟨rfl, hb1⟩
        have HB1 := Lib.hid (HB.out.trans (hb1.mono HB.out.size))
        clear hb1 c0 c1 c2
        go_wp2
        go_roundw
        case rel => exact ⟨lo, (lo + hi) / 2, rfl, by rw [Em.out], by omega, by omega, HL.out, HN.out, HB1.out⟩
        case measure => simp [intOf]; omega
    · obtain rfl : hi = lo := by omega
      have HP : Hid (Place ts w0.data.toList hi) := Lib.hid ⟨hin, HL.out, HH.out⟩
      by_cases hn : hi < ts.length
      · obtain ⟨c0, c1, c2⟩ := HTr.out hi hn
        obtain ⟨t, het⟩ : ∃ t, ts[hi] = t := ⟨_, rfl⟩
        rw [het] at c0 c1 c2
        have HE := Lib.hid (get_some hn het)
        clear het
        obtain ⟨s, n, d⟩ := t
        simp only at c0 c1 c2
        by_cases hz : cmpL s.data.toList w0.data.toList = 0
        · have hz2 : (cmpL s.data.toList w0.data.toList == 0) = true := by simpa using hz
          have HZ := Lib.hid ((cmpL_zero _ _).1 hz)
          clear hz
          go_wp2_with fail
          refine (findClosure_c _ _ _ _ _).mono ?_
          rintro e w1 ⟨rfl, hb1⟩
          have HB1 := Lib.hid (HB.out.trans (hb1.mono HB.out.size))
          clear hb1 c0 c1 c2
          go_wp2
          go_ret2
          exact ⟨hi, HP.out, by rw [HE.out]; simp [HZ.out], HB1.out⟩
        · have hz2 : (cmpL s.data.toList w0.data.toList == 0) = false := by simpa using hz
          have HZ : Hid (s.data.toList ≠ w0.data.toList) := Lib.hid (fun e => hz ((cmpL_zero _ _).2 e))
          clear hz
          go_wp2_with fail
          refine (findClosure_c _ _ _ _ _).mono ?_
          rintro e w1 ⟨rfl, hb1⟩
          have HB1 := Lib.hid (HB.out.trans (hb1.mono HB.out.size))
          clear hb1 c0 c1 c2
          go_wp2
          go_ret2
          exact ⟨hi, HP.out, by rw [HE.out]; simp [HZ.out], HB1.out⟩
      · have HE : Hid (ts[hi]? = none) := Lib.hid (List.getElem?_eq_none (by omega))
        go_wp2
        go_ret2
        exact ⟨hi, HP.out, by rw [HE.out]; simp, HB.out⟩

theorem findTerm_c (b off cap : Nat) (ts : List Tm) (hl : ts.length ≤ 1048576) (w0 : ByteArray) (ha : Asc ts) (w : World) (hb : b < w.heap.size) (ht : TermsIn w b off ts) :
    Calls Try.prog 84 #[.slice (some ⟨b, off, none⟩) ts.length cap, .string w0] w (FindPost ts w0.data.toList w) := by
  have HT := Lib.hid ht
  have HA := Lib.hid ha
  clear ht ha
  go_enter Try.func84, Try.ntmps84
  go_wp2_with fail
  refine (binSearch_c b off cap ts hl w0 HA.out w hb HT.out).mono ?_
  rintro e w1 ⟨i, hp, rfl, hB⟩
  have HP := Lib.hid hp
  clear hp
  generalize hf : (match ts[i]? with | some t => decide (t.s.data.toList = w0.data.toList) | none => false) = f
  have HF := Lib.hid hf
  clear hf
  go_wp2
  go_ret2
  exact ⟨i, HP.out, by rw [HF.out]; rfl, hB⟩

/-- the value at a word -/
def valL (w0 : List UInt8) : List Tm → Int × Int
  | [] => (0, 1)
  | t :: r => if t.s.data.toList = w0 then (t.n, t.d) else valL w0 r
theorem valL_at {w0 : List UInt8} : ∀ (ts : List Tm) (i : Nat) (h : i < ts.length), (∀ j (hj : j < ts.length), j < i → (ts[j]).s.data.toList ≠ w0) → (ts[i]).s.data.toList = w0 → valL w0 ts = ((ts[i]).n, (ts[i]).d)
  | [], i, h, _, _ => absurd h (Nat.not_lt_zero _)
  | t :: r, 0, _, _, he => by simp only [List.getElem_cons_zero] at he ⊢; rw [valL, if_pos he]
  | t :: r, i + 1, h, hn, he => by
    have h0 := hn 0 (by simp) (by omega)
    simp only [List.getElem_cons_zero] at h0
    rw [valL, if_neg h0]
    simp only [List.getElem_cons_succ] at he ⊢
    exact valL_at r i (by simpa using h) (fun j hj hji => by have := hn (j + 1) (by simpa using hj) (by omega); simpa using this) he
theorem valL_none {w0 : List UInt8} : ∀ (ts : List Tm), (∀ j (hj : j < ts.length), (ts[j]).s.data.toList ≠ w0) → valL w0 ts = (0, 1)
  | [], _ => rfl
  | t :: r, hn => by
    have h0 := hn 0 (by simp)
    simp only [List.getElem_cons_zero] at h0
    rw [valL, if_neg h0]
    exact valL_none r (fun j hj => by have := hn (j + 1) (by simpa using hj); simpa using this)
theorem data_eq {a b : ByteArray} (h : a.data.toList = b.data.toList) : a = b := by
  cases a; cases b; simp at h; rw [h]

theorem l01Value_c (L V : Int) (b off cap : Nat) (ts : List Tm) (hl : ts.length ≤ 1048576) (w0 : ByteArray) (w : World) (hb : b < w.heap.size) (ht : TermsIn w b off ts) :
    Calls Try.prog 87 #[.agg #[.int .i64 L, .int .i64 V, .slice (some ⟨b, off, none⟩) ts.length cap], .string w0] w fun e w' => e = .returned (.agg #[.int .i64 (valL w0.data.toList ts).1, .int .i64 (valL w0.data.toList ts).2]) ∧ Below w.heap.size w w' := by
  have HT := Lib.hid ht
  clear ht
  go_enter Try.func87, Try.ntmps87
  go_wp2
  go_loop [5] (fun vi => ∃ k : Nat, k ≤ ts.length ∧ vi = .int .i64 k ∧ (∀ j (hj : j < ts.length), j < k → (ts[j]).s.data.toList ≠ w0.data.toList)) (fun vi => ts.length - (intOf vi).toNat)
  case atStart => exact ⟨0, Nat.zero_le _, rfl, fun j _ h => by omega⟩
  case round =>
    obtain ⟨k, hk, rfl, hn⟩ := hrel
    have HN := Lib.hid hn
    clear hn
    have hTr := Lib.hid (HT.out.below (below2 w (.cells #[.int .i64 L, .int .i64 V, .slice (some ⟨b, off, none⟩) ts.length cap] 28) (.cells #[.int .i64 0, .int .i64 0] 38)) hb)
    by_cases hlt : k < ts.length
    · obtain ⟨c0, c1, c2⟩ := hTr.out k hlt
      obtain ⟨t, het⟩ : ∃ t, ts[k] = t := ⟨_, rfl⟩
      rw [het] at c0 c1 c2
      have HE := Lib.hid het
      clear het
      obtain ⟨s, n, d⟩ := t
      simp only at c0 c1 c2
      by_cases hs : s = w0
      · subst hs
        have HV := Lib.hid (valL_at ts k hlt HN.out (by rw [HE.out]))
        go_wp2
        exact bodyPost_ret (v := .agg #[.int .i64 n, .int .i64 d]) (by simp [results, Try.results87, go_sem]) rfl ⟨by rw [HV.out, HE.out], by go_grown⟩
      · have hs2 : (s.toList == w0.toList) = false := by
          rw [ByteArray.toList_eq, ByteArray.toList_eq]; simp; exact fun e => hs (data_eq (by rw [Array.toList_inj] at *; exact e))
        go_wp2
        go_round
        case rel =>
          refine ⟨k + 1, by omega, by go_num, fun j hj hjk => ?_⟩
          by_cases e : j < k
          · exact HN.out j hj e
          · obtain rfl : j = k := by omega
            rw [HE.out]
            exact fun e2 => hs (data_eq e2)
        case measure => simp [intOf]; omega
    · have HV := Lib.hid (valL_none (w0 := w0.data.toList) ts (fun j hj => HN.out j hj (by omega)))
      go_wp2
      exact bodyPost_ret (v := .agg #[.int .i64 0, .int .i64 1]) (by simp [results, Try.results87, go_sem]) rfl ⟨by rw [HV.out], by go_grown⟩
end Go.Proofs.Ytaalpchdahmgaaa
