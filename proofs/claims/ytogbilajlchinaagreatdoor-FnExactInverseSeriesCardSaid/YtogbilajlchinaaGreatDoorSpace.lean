/-
  The program's spaces: all words of a shape in a row; a series out of a map.
-/
import Derived.Test.YtogbilajlchinaaGreatDoorWordsOf
import Derived.Test.YtogbilajlchinaaGreatDoorMapV
import Derived.Test.YtogbilajlchinaaGreatDoorSumL
import Derived.Test.YtogbilajlchinaaGreatDoorNew
namespace Go.Proofs.YtogbilajlchinaaGreatDoor
open Go.RowKit

/-- all words of at most N letters, in order -/
def allW (D : Nat) : Nat → List ByteArray
  | 0 => wordsL D 0
  | n + 1 => allW D n ++ wordsL D (n + 1)
theorem allW_few {D : Nat} (hD : D ≤ 3) : ∀ {n : Nat}, n ≤ 5 → (allW D n).length ≤ 243 * (n + 1)
  | 0, h => by have := wordsL_few (n := 0) hD h; simpa [allW] using this
  | n + 1, h => by
    have h1 := allW_few hD (n := n) (by omega)
    have h2 := wordsL_few (n := n + 1) hD h
    rw [allW, List.length_append]
    omega
theorem allW_size (D : Nat) : ∀ (n : Nat) (s : ByteArray), s ∈ allW D n → s.size ≤ n
  | 0, s, h => by have := wordsL_size D 0 s h; omega
  | n + 1, s, h => by
    rw [allW] at h
    rcases List.mem_append.1 h with h | h
    · have := allW_size D n s h; omega
    · have := wordsL_size D (n + 1) s h; omega
/-- the words before the lengths from k on -/
def upto (D : Nat) : Nat → List ByteArray
  | 0 => []
  | k + 1 => upto D k ++ wordsL D k
theorem upto_all (D : Nat) : ∀ n, upto D (n + 1) = allW D n
  | 0 => rfl
  | n + 1 => by rw [upto, upto_all D n, allW]
theorem upto_few {D : Nat} (hD : D ≤ 3) : ∀ {k : Nat}, k ≤ 6 → (upto D k).length ≤ 243 * k
  | 0, _ => by simp [upto]
  | k + 1, h => by
    have h1 := upto_few hD (k := k) (by omega)
    have h2 := wordsL_few (n := k) hD (by omega)
    rw [upto, List.length_append]
    omega

def SpacePost (D N : Nat) (W : World) (e : Ending) (w' : World) : Prop :=
  ∃ (a : Option Addr) (cap : Nat), e = .returned (.agg #[.int .i64 D, .int .i64 N, .slice a (allW D N).length cap]) ∧ Below W.heap.size W w' ∧ NewS W.heap.size w'.heap.size w' a (allW D N)
theorem NewS.far {lo hi n i : Nat} {w : World} {a : Option Addr} {ss : List ByteArray} {x : Value} (h : NewS lo hi w a ss) (hn : n < lo) : NewS lo hi (w.setCell ⟨n, i, none⟩ x) a ss := by
  rcases h with h | ⟨g, e, h1, h2, h3, h4⟩
  · exact .inl h
  · exact .inr ⟨g, e, h1, h2, h3.set _ _, h4.setCell (by show n ≠ g; omega) _⟩

set_option maxRecDepth 100000 in
set_option maxHeartbeats 4000000 in
theorem spaceOf_c (D N : Nat) (hD : 1 ≤ D ∧ D ≤ 3) (hN : N ≤ 5) (w : World) : Calls Tryz.prog 38 #[.int .i64 D, .int .i64 N] w (SpacePost D N w) := by
  go_enter Tryz.func38, Tryz.ntmps38
  go_wp2_with fail
  go_loopw [5, 11] (fun v vk wr => ∃ (k : Nat) (a : Option Addr) (l c : Nat), k ≤ N + 1 ∧ vk = .int .i64 k ∧ v = .slice a l c ∧ l = (upto D k).length ∧ OwnS wr (w.heap.size + 1) (.slice a l c) (upto D k) ∧ Below (w.heap.size + 1) (w.alloc (.cells #[.int .i64 0, .int .i64 0, .slice none 0 0] 56)) wr) (fun _ vk _ => N + 1 - (intOf vk).toNat)
  case atStart => exact ⟨0, none, 0, 0, Nat.zero_le _, rfl, rfl, rfl, OwnS.nil _ _, Below.refl _ _⟩
  case round =>
    obtain ⟨k, a, l, c, hk, rfl, rfl, hl, hO, hB⟩ := hrel
    have HO := Lib.hid hO
    have HB := Lib.hid hB
    have HL := Lib.hid hl
    have hz := hB.size
    simp only [World.size_alloc] at hz
    have hfew := upto_few (D := D) (k := k) hD.2 (by omega)
    clear hO hB hl
    by_cases hlt : k < N + 1
    · have hltI : (k : Int) < (N : Int) + 1 := by omega
      go_wp2_with fail
      refine (iWordsOf_3 D k _ hD (by omega)).mono ?_
      rintro e w1 ⟨a1, c1, rfl, hb1, hN1⟩
      have hz1 := hb1.size
      have HB1 := Lib.hid (HB.out.trans (hb1.mono (by omega)))
      have HO1 := Lib.hid (HO.out.below hb1 (fun g h => (HO.out.lt g h).2))
      have HR1 := Lib.hid hN1.row
      have hfew1 := wordsL_few (d := D) (n := k) hD.2 (by omega)
      clear hb1 hN1
      go_wp2_with (at_builtin; refine wpList_append_strs rfl _ _ rfl (w.heap.size + 1) (.slice a l c) l (upto D k) (wordsL D k) rfl HL.out HO1.out a1 _ c1 rfl rfl ?_ (by have := HL.out; omega) (by omega) ?_)
      · rcases HR1.out with h | ⟨b, o, h1, h2, h3⟩
        · exact .inl (by rw [h]; rfl)
        · exact .inr ⟨b, o, h1, h3⟩
      intro a2 c2 w2 hO2 hG2 _
      have HB2 := Lib.hid (HB1.out.trans (own_grownS HO1.out hG2 (by omega)))
      have HO2 := Lib.hid hO2
      clear hO2 hG2
      go_wp2
      go_roundw
      case rel => exact ⟨k + 1, a2, _, c2, by omega, by go_num, rfl, by rw [upto, List.length_append, HL.out], HO2.out, HB2.out⟩
      case measure => simp [intOf]; omega
    · obtain rfl : k = N + 1 := by omega
      have hge : ¬ ((N : Int) + 1) < (N : Int) + 1 := by omega
      have bc := bcellB HB.out
      have r0 : wr.cell? ⟨w.heap.size, 0, none⟩ = some (.int .i64 0) := (bc.1 _ _ (by omega)).trans (by go_simp)
      have r1 : wr.cell? ⟨w.heap.size, 1, none⟩ = some (.int .i64 0) := (bc.1 _ _ (by omega)).trans (by go_simp)
      have r2 : wr.cell? ⟨w.heap.size, 2, none⟩ = some (.slice none 0 0) := (bc.1 _ _ (by omega)).trans (by go_simp)
      have z0 : wr.frozen? ⟨w.heap.size, 0, none⟩ = false := (bc.2 _ _ (by omega)).trans (by go_simp)
      have z1 : wr.frozen? ⟨w.heap.size, 1, none⟩ = false := (bc.2 _ _ (by omega)).trans (by go_simp)
      have z2 : wr.frozen? ⟨w.heap.size, 2, none⟩ = false := (bc.2 _ _ (by omega)).trans (by go_simp)
      have HW := Lib.hid ((below1 w _).trans (HB.out.mono (by omega)))
      have hO := HO.out
      rw [upto_all] at hO
      have hNw := Lib.hid hO.at_.2
      have hlen := hO.at_.1
      subst hlen
      clear bc hO
      go_wp2
      refine bodyPost_ret (v := .agg #[.int .i64 D, .int .i64 N, .slice a (allW D N).length c]) (by simp [results, Tryz.results38, go_sem, r0, r1, r2]) rfl ⟨a, c, rfl, ?_, ?_⟩
      · have hW := HW.out
        go_grown
      · exact (((hNw.out.far (n := w.heap.size) (by omega)).far (by omega)).far (by omega)).mono (by omega) (by simp)

/-- the terms that a map gives along words -/
def termsOf (f : ByteArray → Option (Int × Int)) (ws : List ByteArray) : List Tm := ws.filterMap fun s => (f s).map fun p => ⟨s, p.1, p.2⟩
theorem termsOf_take {f : ByteArray → Option (Int × Int)} {ws : List ByteArray} {k : Nat} (h : k < ws.length) : termsOf f (ws.take (k + 1)) = termsOf f (ws.take k) ++ (match f ws[k] with | none => [] | some p => [⟨ws[k], p.1, p.2⟩]) := by
  unfold termsOf
  rw [List.take_succ_eq_append_getElem h, List.filterMap_append]
  congr 1
  cases hf : f ws[k] with
  | none => simp [hf]
  | some p => simp [hf]
theorem termsOf_le (f : ByteArray → Option (Int × Int)) (ws : List ByteArray) (k : Nat) : (termsOf f (ws.take k)).length ≤ ws.length := by
  refine Nat.le_trans (List.length_filterMap_le _ _) ?_
  rw [List.length_take]; omega
theorem termsOf_mem {f : ByteArray → Option (Int × Int)} {ws : List ByteArray} {t : Tm} (h : t ∈ termsOf f ws) : t.s ∈ ws := by
  unfold termsOf at h
  obtain ⟨s, hs, ht⟩ := List.mem_filterMap.1 h
  obtain ⟨p, _, rfl⟩ := Option.map_eq_some_iff.1 ht
  exact hs

set_option maxRecDepth 100000 in
set_option maxHeartbeats 8000000 in
theorem seriesOf_c (L V : Int) (a : Option Addr) (cap : Nat) (ws : List ByteArray) (hl : ws.length ≤ 1048576) (hs : ∀ s ∈ ws, s.size ≤ 1048576) (b n : Nat) (f : ByteArray → Option (Int × Int)) (w : World) (hr : SRow w a ws) (hm : MapV w b n f) :
    Calls Tryz.prog 92 #[.agg #[.int .i64 L, .int .i64 V, .slice a ws.length cap], .map (some b)] w (ToSer L V (termsOf f ws) w) := by
  have HR := Lib.hid hr
  have HM := Lib.hid hm
  have HS := Lib.hid hs
  have hbl := hm.lt
  clear hr hm hs
  go_enter Tryz.func92, Tryz.ntmps92
  go_wp2_with fail
  go_loopw [5, 13] (fun v vk wr => ∃ (k : Nat) (at_ : Option Addr) (l c : Nat), k ≤ ws.length ∧ vk = .int .i64 k ∧ v = .slice at_ l c ∧ l = (termsOf f (ws.take k)).length ∧ OwnT wr (w.heap.size + 1 + 1) (.slice at_ l c) (termsOf f (ws.take k)) ∧ Below (w.heap.size + 1 + 1) ((w.alloc (.cells #[.int .i64 L, .int .i64 V, .slice a ws.length cap] 56)).alloc (.cells #[.int .i64 0, .int .i64 0, .slice none 0 0] 28)) wr) (fun _ vk _ => ws.length - (intOf vk).toNat)
  case atStart => exact ⟨0, none, 0, 0, Nat.zero_le _, rfl, rfl, rfl, OwnT.nil _ _, Below.refl _ _⟩
  case round =>
    obtain ⟨k, av, lv, cv, hk, rfl, rfl, hlv, hO, hB⟩ := hrel
    have HO := Lib.hid hO
    have HB := Lib.hid hB
    have HL := Lib.hid hlv
    have hz := hB.size
    simp only [World.size_alloc] at hz
    have hfew := termsOf_le f ws k
    have HW := Lib.hid ((below2 w (.cells #[.int .i64 L, .int .i64 V, .slice a ws.length cap] 56) (.cells #[.int .i64 0, .int .i64 0, .slice none 0 0] 28)).trans (HB.out.mono (by omega)))
    clear hO hB hlv
    by_cases hlt : k < ws.length
    · rcases HR.out with h | ⟨b0, off, rfl, hb0, ht⟩
      · rw [h] at hlt; simp at hlt
      have c0 := ht.below HW.out hb0 k hlt
      have hsz := HS.out _ (List.getElem_mem hlt)
      have HT := Lib.hid (termsOf_take (f := f) hlt)
      obtain ⟨s, hse⟩ : ∃ s, ws[k] = s := ⟨_, rfl⟩
      rw [hse] at c0 hsz HT
      have HMr := Lib.hid (HM.out.below HW.out hbl)
      have hsm : s.size ≤ maxLen := by unfold maxLen; omega
      clear hse ht
      cases hf : f s with
      | none =>
        rw [hf] at HT
        have HF := Lib.hid hf
        clear hf
        go_wp2_with (at_lookup; refine wpList_lookV rfl _ _ rfl rfl HMr.out s rfl hsm ?_; rw [HF.out]; simp only [lookV])
        go_roundw
        case rel => exact ⟨k + 1, av, lv, cv, by omega, by go_num, rfl, by rw [HT.out]; simpa using HL.out, by rw [HT.out]; simpa using HO.out.alloc _, HB.out.alloc (by omega) _⟩
        case measure => simp [intOf]; omega
      | some p =>
        obtain ⟨x, d⟩ := p
        rw [hf] at HT
        have HF := Lib.hid hf
        have ht1 := terms_one (wr.alloc (.cells #[.int .i64 x, .int .i64 d] 47)) ⟨s, x, d⟩
        rw [World.size_alloc] at ht1
        have HT1 := Lib.hid ht1
        clear hf ht1
        go_wp2_with (first | (at_lookup; refine wpList_lookV rfl _ _ rfl rfl HMr.out s rfl hsm ?_; rw [HF.out]; simp only [lookV]) | (at_builtin; refine wpList_append_terms rfl _ _ rfl (w.heap.size + 1 + 1) (.slice av lv cv) lv (termsOf f (ws.take k)) [⟨s, x, d⟩] rfl HL.out ((HO.out.alloc _).alloc _) _ 1 1 rfl rfl (.inr ⟨wr.heap.size + 1, 0, rfl, HT1.out⟩) (by have := HL.out; omega) (by simp; omega) ?_))
        intro a3 c3 w3 hO3 hG3 _
        have HB3 := Lib.hid (HB.out.trans (((below2 wr _ _).mono (by omega)).trans (own_grown ((HO.out.alloc _).alloc _) hG3 (by simp; omega))))
        have HO3 := Lib.hid hO3
        clear hO3 hG3
        go_wp2
        go_roundw
        case rel => exact ⟨k + 1, a3, _, c3, by omega, by go_num, rfl, by rw [HT.out, List.length_append, HL.out]; rfl, by rw [HT.out]; exact HO3.out, HB3.out⟩
        case measure => simp [intOf]; omega
    · obtain rfl : k = ws.length := by omega
      have bc := bcellB HB.out
      have s0 : wr.cell? ⟨w.heap.size, 0, none⟩ = some (.int .i64 L) := (bc.1 _ _ (by omega)).trans (by go_simp)
      have s1 : wr.cell? ⟨w.heap.size, 1, none⟩ = some (.int .i64 V) := (bc.1 _ _ (by omega)).trans (by go_simp)
      have hO := HO.out
      rw [List.take_length] at hO
      have hl2 := HL.out
      rw [List.take_length] at hl2
      rw [List.take_length] at hfew
      subst hl2
      obtain ⟨a', c', he, hle, hNr⟩ := hO.newRow
      injection he with e1 e2 e3
      subst e1 e3
      have HNr := Lib.hid hNr.row
      clear bc hO hNr
      go_wp2_with fail
      refine (newSeries_c L V av cv (termsOf f ws) (by omega) (fun i hi => HS.out _ (termsOf_mem (List.getElem_mem hi))) _ HNr.out).mono ?_
      clear s0 s1
      rintro e w5 ⟨g, rfl, hb5, hg5, hM5, hT5⟩
      have hz5 := hb5.size
      have HB5 := Lib.hid (HB.out.trans (hb5.mono (by omega)))
      have HM5 := Lib.hid hM5
      have HT5 := Lib.hid hT5
      have bc := bcellB HB5.out
      have r0 : w5.cell? ⟨w.heap.size + 1, 0, none⟩ = some (.int .i64 0) := (bc.1 _ _ (by omega)).trans (by go_simp)
      have r1 : w5.cell? ⟨w.heap.size + 1, 1, none⟩ = some (.int .i64 0) := (bc.1 _ _ (by omega)).trans (by go_simp)
      have r2 : w5.cell? ⟨w.heap.size + 1, 2, none⟩ = some (.slice none 0 0) := (bc.1 _ _ (by omega)).trans (by go_simp)
      have z0 : w5.frozen? ⟨w.heap.size + 1, 0, none⟩ = false := (bc.2 _ _ (by omega)).trans (by go_simp)
      have z1 : w5.frozen? ⟨w.heap.size + 1, 1, none⟩ = false := (bc.2 _ _ (by omega)).trans (by go_simp)
      have z2 : w5.frozen? ⟨w.heap.size + 1, 2, none⟩ = false := (bc.2 _ _ (by omega)).trans (by go_simp)
      have HW5 := Lib.hid (HW.out.trans (hb5.mono (by omega)))
      have hg6 : w.heap.size + 1 < g := by omega
      clear bc hb5 hM5 hT5 hg5
      go_wp2
      refine bodyPost_ret (v := .agg #[.int .i64 L, .int .i64 V, .slice (some ⟨g, 0, none⟩) (termsOf f ws).length (termsOf f ws).length]) (by simp [results, Tryz.results92, go_sem, r0, r1, r2]) rfl ⟨g, rfl, ?_, by omega, ?_, ?_⟩
      · have hW := HW5.out
        go_grown
      · exact ((HM5.out.set _ _).set _ _).set _ _
      · exact ((HT5.out.setCell (by show w.heap.size + 1 ≠ g; omega) _).setCell (by show w.heap.size + 1 ≠ g; omega) _).setCell (by show w.heap.size + 1 ≠ g; omega) _
theorem NewRow.far3u {lo hi n : Nat} {w : World} {a : Option Addr} {ts : List Tm} {x y z : Value} (h : NewRow lo hi w a ts) (hn : n < lo) :
    NewRow lo hi (((w.setCell ⟨n, 0, none⟩ x).setCell ⟨n, 1, none⟩ y).setCell ⟨n, 2, none⟩ z) a ts := by
  rcases h with h | ⟨g, e, h1, h2, h3, h4⟩
  · exact .inl h
  · exact .inr ⟨g, e, h1, h2, ((h3.set _ _).set _ _).set _ _, ((h4.setCell (by show n ≠ g; omega) _).setCell (by show n ≠ g; omega) _).setCell (by show n ≠ g; omega) _⟩
end Go.Proofs.YtogbilajlchinaaGreatDoor
