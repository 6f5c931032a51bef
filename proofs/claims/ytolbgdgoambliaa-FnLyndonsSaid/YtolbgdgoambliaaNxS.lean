/-
  Contracts of NextLyndon's model.
-/
import Derived.Test.YtolbgdgoambliaaWds8
import Derived.Test.YtolbgdgoambliaaNxN
namespace Go.Proofs.Ytolbgdgoambliaa
open Go.RowKit

/-- the words of 1 to k letters -/
def wordsTo (D k : Nat) : List ByteArray := (List.range k).flatMap fun j => wordsL D (j + 1)
theorem wordsTo_succ (D k : Nat) : wordsTo D (k + 1) = wordsTo D k ++ wordsL D (k + 1) := by simp [wordsTo, List.range_succ]
theorem mem_wordsTo {D k : Nat} {v : ByteArray} : v ∈ wordsTo D k ↔ ∃ j, 1 ≤ j ∧ j ≤ k ∧ v ∈ wordsL D j := by
  unfold wordsTo
  rw [List.mem_flatMap]
  constructor
  · rintro ⟨j, hj, hv⟩
    exact ⟨j + 1, by omega, by have := List.mem_range.1 hj; omega, hv⟩
  · rintro ⟨j, h1, h2, hv⟩
    exact ⟨j - 1, List.mem_range.2 (by omega), by rw [show j - 1 + 1 = j from by omega]; exact hv⟩
def NxPost (o : Option ByteArray) (W : World) (e : Ending) (w' : World) : Prop := e = .returned (.tuple #[.string (o.getD ByteArray.empty), .bool o.isSome]) ∧ Below W.heap.size W w'
theorem nx_take {x : ByteArray} {pre ws : List ByteArray} {i : Nat} (h : i < ws.length) : nextN x (pre ++ ws.take (i + 1)) = stepN x (nextN x (pre ++ ws.take i)) ws[i] := by
  rw [List.take_succ_eq_append_getElem h, ← List.append_assoc, nextN_snoc]

set_option maxRecDepth 100000 in
set_option maxHeartbeats 4000000 in
theorem l05Next_c (D N : Nat) (hd : 1 ≤ D ∧ D ≤ 3) (hn : 1 ≤ N ∧ N ≤ 8) (x : ByteArray) (w : World) :
    Calls Try.prog 46 #[.int .i64 D, .int .i64 N, .string x] w (NxPost (nextN x (wordsTo D N)) w) := by
  have HWk := Lib.hid (fun k (hk : k + 1 ≤ 8) => l01Words8_c D (k + 1) hd hk)
  have HFew := Lib.hid (fun k (hk : k + 1 ≤ 8) => wordsL_few8 (d := D) (n := k + 1) hd.2 hk)
  have HSz := Lib.hid (fun k => wordsL_size D (k + 1))
  have hN8 : (N : Int) ≤ 8 := by omega
  go_enter Try.func46, Try.ntmps46
  go_wp2
  go_loopw [8, 9, 10] (fun v8 v9 v10 wr => ∃ (k : Nat) (o : Option ByteArray), k ≤ N ∧ v10 = .int .i64 ((k : Int) + 1) ∧ v8 = .string (o.getD ByteArray.empty) ∧ v9 = .bool o.isSome ∧ Hid (nextN x (wordsTo D k) = o) ∧ Below w.heap.size w wr) (fun _ _ v10 _ => N + 1 - (intOf v10).toNat)
  case atStart => exact ⟨0, none, Nat.zero_le _, rfl, rfl, rfl, Lib.hid rfl, Below.refl _ _⟩
  case round =>
    obtain ⟨k, o, hk, rfl, rfl, rfl, ho, hB⟩ := hrel
    obtain ⟨wo, rfl⟩ : ∃ wo : World, wo = wr := ⟨_, rfl⟩
    have HB := Lib.hid hB
    have hzw := hB.size
    clear hB
    by_cases hlt : k < N
    · have hkle : (k : Int) + 1 ≤ (N : Int) := by omega
      have HW := Lib.hid (HWk.out k (by omega))
      have hfew := HFew.out k (by omega)
      have HSzk := Lib.hid (HSz.out k)
      have HTo := Lib.hid (wordsTo_succ D k)
      obtain ⟨ws, hws⟩ : ∃ ws, wordsL D (k + 1) = ws := ⟨_, rfl⟩
      rw [hws] at HW hfew HSzk HTo
      have e1 : ((k + 1 : Nat) : Int) = (k : Int) + 1 := by omega
      rw [e1] at HW
      clear hws e1
      go_wp2_with fail
      refine (HW.out _).mono ?_
      rintro e w2 ⟨aw, cw, rfl, hb, hNw⟩
      have HB2 := Lib.hid (HB.out.trans (hb.mono hzw))
      have hz2 := HB2.out.size
      have HNw := Lib.hid hNw
      clear hb hNw
      go_wp2_with fail
      go_loopw [8, 9, 12] (fun v8 v9 v12 wr => ∃ (i : Nat) (o : Option ByteArray), i ≤ ws.length ∧ v12 = .int .i64 i ∧ v8 = .string (o.getD ByteArray.empty) ∧ v9 = .bool o.isSome ∧ Hid (nextN x (wordsTo D k ++ ws.take i) = o) ∧ Below w2.heap.size w2 wr) (fun _ _ v12 _ => ws.length - (intOf v12).toNat)
      case atStart => exact ⟨0, o, Nat.zero_le _, rfl, rfl, rfl, Lib.hid (by rw [List.take_zero, List.append_nil]; exact ho.out), Below.refl _ _⟩
      case round =>
        obtain ⟨i, o, hi, rfl, rfl, rfl, ho, hB⟩ := hrel
        have HB := Lib.hid hB
        have hz := hB.size
        clear hB
        by_cases hlti : i < ws.length
        · rcases HNw.out with h | ⟨b, rfl, hb1, hb2, hM, ht⟩
          · rw [h] at hlti; simp at hlti
          have c0 := ht i hlti
          rw [Nat.zero_add] at c0
          have hsz : (ws[i]).size ≤ maxLen := by have := HSzk.out _ (List.getElem_mem hlti); unfold maxLen; omega
          have c1 := (HB.out.cell (p := ⟨b, i, none⟩) hb2).trans c0
          have hbr : b < wr.heap.size := by omega
          have HTk := Lib.hid (nx_take (x := x) (pre := wordsTo D k) hlti)
          rw [ho.out] at HTk
          have hlI : (i : Int) < (ws.length : Int) := by omega
          clear c0 ht hM
          generalize ws[i] = v at hsz c1 HTk
          have HGt := Lib.hid (gt_is v x)
          have HLy := Lib.hid (l05Lyndon_c v hsz wr)
          clear hsz
          cases hA : Op.bytesLess v.toList x.toList with
          | true =>
            have HN := Lib.hid (show ltS x v = false from by rw [← HGt.out, hA]; rfl)
            go_wp2_with (first | (go_at_call 33; refine HLy.out.mono ?_; rintro e w' ⟨rfl, rfl⟩))
            go_roundw
            case rel => exact ⟨i + 1, o, hlti, by go_num, rfl, rfl, Lib.hid (by rw [HTk.out]; unfold stepN nxB; rw [HN.out]; rfl), HB.out⟩
            case measure => simp [intOf]; omega
          | false =>
            cases hE : (v.toList == x.toList) with
            | true =>
              have HN := Lib.hid (show ltS x v = false from by rw [← HGt.out, hA, hE]; rfl)
              go_wp2_with (first | (go_at_call 33; refine HLy.out.mono ?_; rintro e w' ⟨rfl, rfl⟩))
              go_roundw
              case rel => exact ⟨i + 1, o, hlti, by go_num, rfl, rfl, Lib.hid (by rw [HTk.out]; unfold stepN nxB; rw [HN.out]; rfl), HB.out⟩
              case measure => simp [intOf]; omega
            | false =>
              have HN := Lib.hid (show ltS x v = true from by rw [← HGt.out, hA, hE]; rfl)
              cases hl : lynB v with
              | true =>
                have HL := Lib.hid hl
                rw [hl] at HLy
                clear hl
                cases o with
                | none =>
                  go_wp2_with (first | (go_at_call 33; refine HLy.out.mono ?_; rintro e w' ⟨rfl, rfl⟩))
                  go_roundw
                  case rel => exact ⟨i + 1, some v, hlti, by go_num, rfl, rfl, Lib.hid (by rw [HTk.out]; unfold stepN nxB better; rw [HN.out, HL.out]; rfl), HB.out⟩
                  case measure => simp [intOf]; omega
                | some b =>
                  cases hb : Op.bytesLess v.toList b.toList with
                  | true =>
                    have HBt := Lib.hid (show better (some b) v = true from hb)
                    go_wp2_with (first | (go_at_call 33; refine HLy.out.mono ?_; rintro e w' ⟨rfl, rfl⟩))
                    go_roundw
                    case rel => exact ⟨i + 1, some v, hlti, by go_num, rfl, rfl, Lib.hid (by rw [HTk.out]; unfold stepN nxB; rw [HN.out, HL.out, HBt.out]; rfl), HB.out⟩
                    case measure => simp [intOf]; omega
                  | false =>
                    have HBt := Lib.hid (show better (some b) v = false from hb)
                    go_wp2_with (first | (go_at_call 33; refine HLy.out.mono ?_; rintro e w' ⟨rfl, rfl⟩))
                    go_roundw
                    case rel => exact ⟨i + 1, some b, hlti, by go_num, rfl, rfl, Lib.hid (by rw [HTk.out]; unfold stepN nxB; rw [HN.out, HL.out, HBt.out]; rfl), HB.out⟩
                    case measure => simp [intOf]; omega
              | false =>
                have HL := Lib.hid hl
                rw [hl] at HLy
                clear hl
                cases o with
                | none =>
                  go_wp2_with (first | (go_at_call 33; refine HLy.out.mono ?_; rintro e w' ⟨rfl, rfl⟩))
                  go_roundw
                  case rel => exact ⟨i + 1, none, hlti, by go_num, rfl, rfl, Lib.hid (by rw [HTk.out]; unfold stepN nxB better; rw [HN.out, HL.out]; rfl), HB.out⟩
                  case measure => simp [intOf]; omega
                | some b =>
                  cases hb : Op.bytesLess v.toList b.toList with
                  | true =>
                    have HBt := Lib.hid (show better (some b) v = true from hb)
                    go_wp2_with (first | (go_at_call 33; refine HLy.out.mono ?_; rintro e w' ⟨rfl, rfl⟩))
                    go_roundw
                    case rel => exact ⟨i + 1, some b, hlti, by go_num, rfl, rfl, Lib.hid (by rw [HTk.out]; unfold stepN nxB; rw [HN.out, HL.out, HBt.out]; rfl), HB.out⟩
                    case measure => simp [intOf]; omega
                  | false =>
                    have HBt := Lib.hid (show better (some b) v = false from hb)
                    go_wp2_with (first | (go_at_call 33; refine HLy.out.mono ?_; rintro e w' ⟨rfl, rfl⟩))
                    go_roundw
                    case rel => exact ⟨i + 1, some b, hlti, by go_num, rfl, rfl, Lib.hid (by rw [HTk.out]; unfold stepN nxB; rw [HN.out, HL.out, HBt.out]; rfl), HB.out⟩
                    case measure => simp [intOf]; omega
        · obtain rfl : i = ws.length := by omega
          have HE := Lib.hid (show nextN x (wordsTo D (k + 1)) = o from by rw [HTo.out]; have := ho.out; rw [List.take_length] at this; exact this)
          go_wp2
          go_roundw
          case rel => exact ⟨k + 1, o, hlt, by go_num, rfl, rfl, HE, HB2.out.trans (HB.out.mono hz2)⟩
          case measure => simp [intOf]; omega
    · obtain rfl : k = N := by omega
      go_wp2
      go_ret2
      rw [ho.out]
      exact ⟨rfl, HB.out⟩
def TxPost (s : ByteArray) (c : Int) (W : World) (e : Ending) (w' : World) : Prop := e = .returned (.tuple #[.string s, .int .i64 c]) ∧ Below W.heap.size W w'
theorem sNextLyndon_1 (d n : Int) (x : ByteArray) (hs : x.size ≤ maxLen) (h : shortB d 8 x = false ∨ inB n 1 8 = false) (w : World) :
    Calls Try.prog 21 #[.int .i64 d, .int .i64 n, .string x] w (TxPost { data := #[] } 2 w) := by
  have HWo := Lib.hid (l05Word_c d 8 x hs w)
  have HIn := Lib.hid (l01In_c n 1 8 w)
  cases h1 : shortB d 8 x with
  | false =>
    rw [h1] at HWo
    clear h h1
    go_enter Try.func21, Try.ntmps21
    go_wp2_with (first | (go_at_call 28; refine HWo.out.mono ?_; rintro e w' ⟨rfl, rfl⟩))
    go_ret2
    exact ⟨rfl, Below.refl _ _⟩
  | true =>
    have h2 := h.resolve_left (by rw [h1]; simp)
    rw [h1] at HWo
    rw [h2] at HIn
    clear h h1 h2
    go_enter Try.func21, Try.ntmps21
    go_wp2_with (first | (go_at_call 28; refine HWo.out.mono ?_; rintro e w' ⟨rfl, rfl⟩) | (go_at_call 41; refine HIn.out.mono ?_; rintro e w' ⟨rfl, rfl⟩))
    go_ret2
    exact ⟨rfl, Below.refl _ _⟩
theorem sNextLyndon_2 (D N : Nat) (hd : 1 ≤ D ∧ D ≤ 3) (hn : 1 ≤ N ∧ N ≤ 8) (x : ByteArray) (hs : x.size ≤ maxLen) (h1 : shortB (D : Int) 8 x = true) (w : World) :
    Calls Try.prog 21 #[.int .i64 D, .int .i64 N, .string x] w (TxPost ((nextN x (wordsTo D N)).getD ByteArray.empty) (if (nextN x (wordsTo D N)).isSome = true then 0 else 4) w) := by
  have HWo := Lib.hid (l05Word_c (D : Int) 8 x hs w)
  have HIn := Lib.hid (l01In_c (N : Int) 1 8 w)
  have HNx := Lib.hid (l05Next_c D N hd hn x w)
  rw [h1] at HWo
  rw [inB_yes (by omega)] at HIn
  clear h1
  generalize nextN x (wordsTo D N) = o at HNx ⊢
  cases o with
  | none =>
    go_enter Try.func21, Try.ntmps21
    go_wp2_with (first | (go_at_call 28; refine HWo.out.mono ?_; rintro e w' ⟨rfl, rfl⟩) | (go_at_call 41; refine HIn.out.mono ?_; rintro e w' ⟨rfl, rfl⟩) | fail)
    refine HNx.out.mono ?_
    rintro e w1 ⟨rfl, hb⟩
    go_wp2
    go_ret2
    exact ⟨rfl, hb⟩
  | some b =>
    go_enter Try.func21, Try.ntmps21
    go_wp2_with (first | (go_at_call 28; refine HWo.out.mono ?_; rintro e w' ⟨rfl, rfl⟩) | (go_at_call 41; refine HIn.out.mono ?_; rintro e w' ⟨rfl, rfl⟩) | fail)
    refine HNx.out.mono ?_
    rintro e w1 ⟨rfl, hb⟩
    go_wp2
    go_ret2
    exact ⟨rfl, hb⟩
end Go.Proofs.Ytolbgdgoambliaa
