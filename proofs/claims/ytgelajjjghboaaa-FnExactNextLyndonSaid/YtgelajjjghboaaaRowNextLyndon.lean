/-
  'FnExactNextLyndon' returns true at every input: the program's NextLyndon and its model's return the same word and code. No condition.
-/
import Derived.Test.YtgelajjjghboaaaNxI
import Derived.Test.YtgelajjjghboaaaLynL8
import Derived.Test.YtgelajjjghboaaaLwM
import Derived.Test.YtgelajjjghboaaaOpen
namespace Go.Proofs.Ytgelajjjghboaaa
open Go.ChangeShapes Go.WideShapes Go.ChangeAt Go.RowKit
open Go.ChangeMaps (open_string shut_string)

theorem law_NextLyndon (d n : Int) (s : ByteArray) (_ : s.size ≤ maxLen) (r : ByteArray) (c : Int) (hS : ∀ w : World, Calls Try.prog 11 #[.int .i64 d, .int .i64 n, .string s] w (TxPost r c w)) (hI : ∀ w : World, Calls Try.prog 12 #[.int .i64 d, .int .i64 n, .string s] w (TxPost r c w)) (w : World) :
    Calls Try.prog 3 #[.int .i64 d, .int .i64 n, .string s] w fun e w' => e = .returned (.bool true) ∧ Below w.heap.size w w' := by
  by_cases hbig : (1048576 : Int) < (s.size : Int)
  · go_enter Try.func3, Try.ntmps3
    go_wp2
    go_ret
    exact ⟨rfl, Below.refl _ _⟩
  have HS := Lib.hid hS
  have HI := Lib.hid hI
  have hst : (r.toList != r.toList) = false := by simp
  clear hS hI
  go_enter Try.func3, Try.ntmps3
  go_wp2_with fail
  refine (HS.out _).mono ?_
  rintro e w1 ⟨rfl, hb1⟩
  go_wp2_with fail
  refine (HI.out _).mono ?_
  rintro e w2 ⟨rfl, hb2⟩
  have HB := Lib.hid (hb1.trans (hb2.mono hb1.size))
  clear hb1 hb2
  go_wp2
  go_ret
  exact ⟨rfl, HB.out⟩
theorem baL_list (a : List UInt8) : (baL a).toList = a := by
  rw [ByteArray.toList_eq]
  simp [baL]
theorem list_baL (s : ByteArray) : baL s.toList = s := by
  unfold baL
  rw [ByteArray.toList_eq]
/-- what the program finds in its list is the least of all Lyndon words that are greater -/
theorem next_is {D N : Nat} (hd : 1 ≤ D ∧ D ≤ 3) (hn : 1 ≤ N ∧ N ≤ 8) (x : ByteArray) : ∃ ss : List ByteArray, ss ≠ [] ∧ ss.length ≤ 2000 ∧
    (∃ L, genL (UInt8.ofNat (47 + D)) N 2000 [48] = some L ∧ L.map baL = ss) ∧
    ∃ (k : Nat) (f : Bool), k ≤ ss.length ∧ (∀ t (h : t < ss.length), t < k → ltS ss[t] x = true) ∧ (∀ t (h : t < ss.length), k ≤ t → ltS ss[t] x = false) ∧ (f = true → ∃ h : k < ss.length, ss[k] = x) ∧ (f = false → ∀ h : k < ss.length, ss[k] ≠ x) ∧
      ss[if f = true then k + 1 else k]? = nextN x (wordsTo D N) := by
  obtain ⟨L, hL, hsort, hfil⟩ := genL_all hd hn
  have hlen := genL_len 2000 [48] L (by simp; omega) hL
  have hp := sortB_ne hsort
  -- the Lyndon words greater than x of the list are those of up to N letters
  have hmem : ∀ v, nxB x v = true → (v ∈ L.map baL ↔ v ∈ wordsTo D N) := fun v hv => by
    have hlyn : lynB v = true := by
      unfold nxB at hv
      rw [Bool.and_eq_true] at hv
      exact hv.2
    have hv0 := (lynB_true hlyn).1
    rw [mem_wordsTo, List.mem_map]
    constructor
    · rintro ⟨a, ha, rfl⟩
      have hs : (baL a).size = a.length := by simp [baL, ByteArray.size]
      refine ⟨a.length, by omega, hlen.2.2 a ha, ?_⟩
      have h1 : a ∈ L.filter (fun w => w.length == a.length) := List.mem_filter.2 ⟨ha, by simp⟩
      rw [hfil a.length (by omega) (hlen.2.2 a ha)] at h1
      obtain ⟨u, hu, rfl⟩ := List.mem_map.1 h1
      rw [list_baL]
      exact (List.mem_filter.1 hu).1
    · rintro ⟨j, h1, h2, hvj⟩
      have h3 : v.toList ∈ ((wordsL D j).filter lynB).map (fun s => s.toList) := List.mem_map.2 ⟨v, List.mem_filter.2 ⟨hvj, hlyn⟩, rfl⟩
      rw [← hfil j h1 h2] at h3
      exact ⟨v.toList, (List.mem_filter.1 h3).1, list_baL v⟩
  have hlyn : ∀ v ∈ L.map baL, ltS x v = true → lynB v = true := fun v hv hx => by
    obtain ⟨a, ha, rfl⟩ := List.mem_map.1 hv
    have h0 : 1 ≤ a.length := by
      cases a with
      | nil =>
        unfold ltS at hx
        rw [baL_list] at hx
        simp [Op.bytesLess] at hx
      | cons c r => simp
    have h1 : a ∈ L.filter (fun w => w.length == a.length) := List.mem_filter.2 ⟨ha, by simp⟩
    rw [hfil a.length h0 (hlen.2.2 a ha)] at h1
    obtain ⟨u, hu, rfl⟩ := List.mem_map.1 h1
    rw [list_baL]
    exact (List.mem_filter.1 hu).2
  have hasc : ∀ i j (hi : i < (L.map baL).length) (hj : j < (L.map baL).length), i < j → ltS (L.map baL)[i] (L.map baL)[j] = true := fun i j hi hj hij => by
    have h := List.pairwise_iff_getElem.1 hp i j (by simpa using hi) (by simpa using hj) hij
    unfold ltS
    rw [List.getElem_map, List.getElem_map, baL_list, baL_list]
    exact h
  have hne : L.map baL ≠ [] := by simpa using hlen.1
  have hfew : (L.map baL).length ≤ 2000 := by simpa using hlen.2.1
  refine ⟨L.map baL, hne, hfew, ⟨L, hL, rfl⟩, ?_⟩
  generalize L.map baL = ss at hmem hlyn hasc hne hfew
  obtain ⟨k, hk, k1, k2⟩ := cut_at (fun t => ltS (ss.getD t ByteArray.empty) x) ss.length (fun i j hij hj h => by
    have hi : i < ss.length := by omega
    have ei : ss.getD i ByteArray.empty = ss[i] := by simp [List.getD, hi]
    have ej : ss.getD j ByteArray.empty = ss[j] := by simp [List.getD, hj]
    simp only [ei] at h
    simp only [ej]
    rcases Nat.lt_or_ge i j with h1 | h1
    · cases hq : ltS ss[j] x with
      | false => rfl
      | true => have := ltS_trans (hasc i j hi hj h1) hq; rw [h] at this; cases this
    · obtain rfl : i = j := by omega
      exact h)
  have k1' : ∀ t (h : t < ss.length), t < k → ltS ss[t] x = true := fun t h ht => by have := k1 t ht; simpa [List.getD, h] using this
  have k2' : ∀ t (h : t < ss.length), k ≤ t → ltS ss[t] x = false := fun t h ht => by have := k2 t ht h; simpa [List.getD, h] using this
  refine ⟨k, decide (∃ h : k < ss.length, ss[k] = x), hk, k1', k2', fun h => of_decide_eq_true h, fun h hk2 he => absurd ⟨hk2, he⟩ (of_decide_eq_false h), ?_⟩
  have h := (found_is hasc hlyn hk k1' k2').congr hmem
  have e : (if decide (∃ h : k < ss.length, ss[k] = x) = true then k + 1 else k) = (if ∃ h : k < ss.length, ss[k] = x then k + 1 else k) := by
    by_cases hf : ∃ h : k < ss.length, ss[k] = x
    · rw [if_pos hf, if_pos (decide_eq_true hf)]
    · rw [if_neg hf, if_neg (by simpa using hf)]
  rw [e]
  exact h.uniq (nextN_is x _)
theorem main_NextLyndon (d n : Int) (s : ByteArray) (hs : s.size ≤ maxLen) (w : World) :
    Calls Try.prog 3 #[.int .i64 d, .int .i64 n, .string s] w fun e w' => e = .returned (.bool true) ∧ Below w.heap.size w w' := by
  by_cases hg : shortB d 8 s = true ∧ inB n 1 8 = true
  · have hd := (shortB_true hg.1).1
    have hn := inB_true hg.2
    obtain ⟨D, rfl⟩ : ∃ D : Nat, d = D := ⟨d.toNat, by omega⟩
    obtain ⟨N, rfl⟩ : ∃ N : Nat, n = N := ⟨n.toNat, by omega⟩
    obtain ⟨ss, hss, hfew, ⟨L, hL, hLs⟩, k, f, hk, k1, k2, f1, f0, ho⟩ := next_is (D := D) (N := N) (by omega) (by omega) s
    have hU := upTo_c D N (by omega) (by omega) L hL
    rw [hLs] at hU
    exact law_NextLyndon D N s hs _ _ (sNextLyndon_2 D N (by omega) (by omega) s hs hg.1) (iNextLyndon_2 D N (by omega) s hs hg.1 ss hss hfew hU k hk f k1 k2 f1 f0 _ ho _ _ rfl rfl) w
  · have hb : shortB d 8 s = false ∨ inB n 1 8 = false := by
      cases h1 : shortB d 8 s with
      | false => exact .inl rfl
      | true =>
        refine .inr ?_
        cases h2 : inB n 1 8 with
        | false => rfl
        | true => exact absurd ⟨h1, h2⟩ hg
    exact law_NextLyndon d n s hs _ _ (sNextLyndon_1 d n s hs hb) (iNextLyndon_1 d n s hs hb) w

namespace fnExactNextLyndon
set_option maxRecDepth 100000 in
theorem lifted (os : Os) (started : os.Started) (H : Type) (enc : TypeId × Value → H) :
    ReturnsInHanded {} Try.checked os 3 .any (Rows.fnExactNextLyndonSpec.pre6 enc Try.prog Try.f3 Rows.fnExactNextLyndonRow.domain false) (Rows.fnExactNextLyndonSpec.post enc Try.prog Try.f3 false true false false) := by
  refine returnsInHanded_of_change (C := Try.checked) seatOwn started (by kernel_rfl) Try.func3
    (ChangeSpec.witness6 (enc := enc) (C := Try.checked) false ⟨#[], #[.int .i64 0, .int .i64 0, .string ByteArray.empty], []⟩ 8 (by kernel_rfl) (by kernel_rfl) (by kernel_rfl) (by kernel_rfl)) ?_
  intro W base args ds gs before hval0 hW _ _
  have hval : ∀ (j : Nat) t v, Try.f3.params[j]? = some t → args[j]? = some v → Value.okWide Try.prog W .any base t v := hval0
  have hW' := hW
  have hlt : ∀ x ∈ before, x.block < W.heap.size := fun x hx => hW.lt x hx
  obtain ⟨p, q, hA0, hV, rfl, _, _⟩ := hW
  have hA : DataW.TrodAll enc Try.prog W 0 (fun _ => true) true Try.f3.params.toList args.toList ds p := hA0
  rw [Try.params3] at hA hval
  obtain ⟨v0, vs0, d00, ds0, p0, q0, hargs, rfl, rfl, h0, r0⟩ := trodAll_cons hA
  obtain ⟨v1, vs1, d10, ds1, p1, q1, rfl, rfl, rfl, h1, r1⟩ := trodAll_cons r0
  obtain ⟨v2, vs2, d20, ds2, p2, q2, rfl, rfl, rfl, h2, r2⟩ := trodAll_cons r1
  obtain ⟨rfl, rfl, rfl⟩ := trodAll_nil r2
  obtain rfl : args = #[v0, v1, v2] := by cases args; simp_all
  obtain ⟨rfl, rfl⟩ := trodVars_none hV
  obtain ⟨n0, rfl, rfl, rfl, wf0⟩ := open_int Try.underlying2 (hval 0 2 v0 rfl rfl) h0
  obtain ⟨n1, rfl, rfl, rfl, wf1⟩ := open_int Try.underlying2 (hval 1 2 v1 rfl rfl) h1
  obtain ⟨s2, rfl, rfl, rfl, wf2⟩ := open_string Try.underlying9 (hval 2 9 v2 rfl rfl) h2
  clear hA0 hval0
  simp only [List.append_nil] at hW' hlt
  refine (main_NextLyndon n0 n1 s2 wf2 W ).mono fun e W' ⟨he, hg⟩ => ?_
  subst he
  exact ⟨_, rfl, shut_reads (pa := []) hW' (fun _ _ _ => (trodAll_cons_mk (shut_bool Try.underlying4 _) trodAll_mk0)) (trodAll_cons_mk (shut_int Try.underlying2 wf0) (trodAll_cons_mk (shut_int Try.underlying2 wf1) (trodAll_cons_mk (shut_string Try.underlying9 wf2) trodAll_mk0))) (fun _ => rfl) hg⟩

theorem over : Rows.fnExactNextLyndonRow.holds Try.pinned (OpenSpec.ofChange Rows.fnExactNextLyndonSpec) :=
  OpenClaim.holds_of_wide 3 Try.f3 rfl rfl rfl rfl rfl rfl rfl ⟨rfl, rfl, rfl, rfl, rfl⟩ rfl rfl rfl rfl rfl (by kernel_rfl) Try.func3 (by kernel_rfl)
    (of_decide_eq_true (by kernel_rfl)) (by unfold Func.isWrapper; first | (rw [if_pos (by decide +kernel)]; kernel_rfl) | (rw [if_neg (by decide +kernel)]; exact ⟨rfl, rfl⟩))
    (fun os started H enc _ => lifted os started H enc)

theorem proved : Rows.FnExactNextLyndonSaid := over
end fnExactNextLyndon
end Go.Proofs.Ytgelajjjghboaaa
