/-
  The model's unit matrix and product of two matrices of whole numbers; its product along a word.
-/
import Derived.Test.YtknigggjnjkhbaaAlong
import Derived.Test.YtknigggjnjkhbaaPathRes
namespace Go.Proofs.Ytknigggjnjkhbaa
open Go.RowKit

/-- a row of n numbers in a block of its own, by its entries -/
def RowG (w : World) (g n : Nat) (f : Nat → Int) : Prop := Made w g n ∧ ∀ j, j < n → w.cell? ⟨g, j, none⟩ = some (.int .i64 (f j))
theorem RowG.set {w : World} {g n : Nat} {f : Nat → Int} (h : RowG w g n f) {i : Nat} (hi : i < n) (x : Int) : RowG (w.setCell ⟨g, i, none⟩ (.int .i64 x)) g n (fun j => if j = i then x else f j) := by
  refine ⟨h.1.set _ _, fun j hj => ?_⟩
  show _ = some (Value.int .i64 (if j = i then x else f j))
  by_cases e : j = i
  · subst e
    rw [if_pos rfl]
    exact World.cell?_setCell_same _ _ _ (h.2 j hj)
  · rw [if_neg e, World.cell?_setCell_other _ _ _ _ (fun e2 => by injection e2 with _ e3; omega)]
    exact h.2 j hj
theorem RowG.newI {w : World} {g n lo hi : Nat} {f : Nat → Int} (h : RowG w g n f) (h1 : lo ≤ g) (h2 : g < hi) : NewI lo hi w (some ⟨g, 0, none⟩) ((List.range n).map f) :=
  .inr ⟨g, rfl, h1, h2, by simpa using h.1, fun j hj => by
    have hj' : j < n := by simpa using hj
    rw [Nat.zero_add, h.2 j hj']
    simp⟩
theorem RowG.made {w : World} {g n : Nat} (h1 : Made w g n) (h2 : IntsIn w g 0 (List.replicate n 0)) : RowG w g n (fun _ => 0) := ⟨h1, fun j hj => by
  have h := h2 j (by simpa using hj)
  rw [Nat.zero_add] at h
  simpa using h⟩
theorem tabF_take {n i : Nat} {F : MF} (h : i < n) : (tabF n F).take (i + 1) = (tabF n F).take i ++ [(List.range n).map (F i)] := by
  rw [List.take_succ_eq_append_getElem (by rw [tabF_length]; exact h), tabF_row]

def UnitTPost (n : Nat) (W : World) (e : Ending) (w' : World) : Prop := ∃ a c, e = .returned (.slice a n c) ∧ Below W.heap.size W w' ∧ PRow W.heap.size w'.heap.size w' a (tabF n unitT)
set_option maxRecDepth 100000 in
set_option maxHeartbeats 4000000 in
theorem l08Unit_c (n : Nat) (hn : 1 ≤ n ∧ n ≤ 6) (w : World) : Calls Try.prog 77 #[.int .i64 n] w (UnitTPost n w) := by
  obtain ⟨O, hmk, hmade⟩ := make_ints n (by omega)
  have HM := Lib.hid hmade
  clear hmade
  have e0 : (0 : Int) ≤ (n : Int) := by omega
  go_enter Try.func77, Try.ntmps77
  go_wp2
  go_loopw [3, 4] (fun v3 v4 wr => ∃ (i : Nat) (a : Option Addr) (l c : Nat), i ≤ n ∧ v4 = .int .i64 i ∧ v3 = .slice a l c ∧ Hid (l = i) ∧ OwnP wr w.heap.size (.slice a l c) ((tabF n unitT).take i) ∧ Below w.heap.size w wr) (fun _ v4 _ => n - (intOf v4).toNat)
  case atStart => exact ⟨0, _, _, _, Nat.zero_le _, rfl, rfl, Lib.hid rfl, OwnP.emptyRow (heap_alloc_new w _) (Nat.le_refl _), below1 w _⟩
  case round =>
    obtain ⟨i, a, l, c, hi, rfl, rfl, hl, hO, hB⟩ := hrel
    have HO := Lib.hid hO
    have HB := Lib.hid hB
    have hzw := hB.size
    clear hO hB
    by_cases hlt : i < n
    · have hR0 := RowG.made (HM.out wr).1 (HM.out wr).2
      have HR1 := Lib.hid (hR0.set hlt 1)
      have hc0 := hR0.2 i hlt
      have hf0 := (hR0.1.2 i hlt).2
      have HTk := Lib.hid (tabF_take (F := unitT) hlt)
      have hl6 : l ≤ 6 := by have := hl.out; omega
      have HLt := Lib.hid (show l = ((tabF n unitT).take i).length from by rw [List.length_take, tabF_length, hl.out]; omega)
      have HE := Lib.hid (show (List.range n).map (fun j => if j = i then (1 : Int) else 0) = (List.range n).map (unitT i) from List.map_congr_left fun j _ => by
        unfold unitT
        by_cases e : j = i
        · rw [if_pos e, if_pos e.symm]
        · rw [if_neg e, if_neg (fun q => e q.symm)])
      have HW1 := Lib.hid ((below1 wr O).setCell (p := ⟨wr.heap.size, i, none⟩) (Nat.le_refl _) (.int .i64 1))
      have HZ := Lib.hid (HR1.out.newI (lo := wr.heap.size) (hi := wr.heap.size + 1) (Nat.le_refl _) (Nat.lt_succ_self _))
      clear hR0
      have hin : (i : Int) < (n : Int) := by omega
      go_wp2_with (at_builtin; refine wpList_append_path rfl _ _ rfl w.heap.size wr _ a l c ((tabF n unitT).take i) ((List.range n).map (unitT i)) (some ⟨wr.heap.size, 0, none⟩) n n rfl HLt.out HO.out HW1.out (by have h := HZ.out; rw [HE.out] at h; exact h.mono (Nat.le_refl _) (by simp)) (by simp) (by simp only [World.size_setCell, World.size_alloc]; rfl) (by omega) hzw ?_)
      intro a9 q9 w9 hO9 hB9 hz9
      have HO9 := Lib.hid (show OwnP w9 w.heap.size (.slice a9 (l + 1) q9) ((tabF n unitT).take (i + 1)) from by rw [HTk.out]; exact hO9)
      have HB9 := Lib.hid (HB.out.trans ((HW1.out.mono hzw).trans hB9))
      clear hO9 hB9 hc0 hf0
      go_wp2
      go_roundw
      case rel => exact ⟨i + 1, a9, l + 1, q9, hlt, by go_num, rfl, Lib.hid (by rw [hl.out]), HO9.out, HB9.out⟩
      case measure => simp [intOf]; omega
    · obtain rfl : i = n := by omega
      go_wp2
      go_ret
      have hr := HO.out.row
      rw [List.take_of_length_le (by rw [tabF_length]; exact Nat.le_refl _)] at hr
      exact ⟨a, c, by rw [hl.out]; rfl, HB.out, hr⟩

def TimPost (n : Nat) (F : MF) (o : Bool) (W : World) (e : Ending) (w' : World) : Prop :=
  match o with
  | false => e = .returned (.tuple #[.slice none 0 0, .bool false]) ∧ Below W.heap.size W w'
  | true => ∃ a c, e = .returned (.tuple #[.slice a n c, .bool true]) ∧ Below W.heap.size W w' ∧ PRow W.heap.size w'.heap.size w' a (tabF n F)
set_option maxRecDepth 100000 in
set_option maxHeartbeats 8000000 in
theorem l08Times_c (n : Nat) (hn : 1 ≤ n ∧ n ≤ 6) (loA hiA loB hiB : Nat) (a b : Option Addr) (cA cB : Nat) (A B : MF) (hA : BdF n 1000000000 A) (hB : BdF n 1000 B) (w : World) (rA : PRow loA hiA w a (tabF n A)) (rB : PRow loB hiB w b (tabF n B)) (hhA : hiA ≤ w.heap.size) (hhB : hiB ≤ w.heap.size) :
    Calls Try.prog 78 #[.slice a n cA, .slice b n cB] w (TimPost n (mulT n A B) (okT n (mulT n A B)) w) := by
  obtain ⟨O, hmk, hmade⟩ := make_ints n (by omega)
  have HM := Lib.hid hmade
  have HA := Lib.hid hA
  have HB := Lib.hid hB
  have RA := Lib.hid rA
  have RB := Lib.hid rB
  have HNo := Lib.hid (fun i j hi hj h => okT_no (n := n) (F := mulT n A B) i j hi hj h)
  have HYes := Lib.hid (fun h => okT_yes (n := n) (F := mulT n A B) h)
  clear hmade hA hB rA rB
  obtain ⟨o, ho⟩ : ∃ o, okT n (mulT n A B) = o := ⟨_, rfl⟩
  rw [ho]
  rw [ho] at HNo HYes
  clear ho
  have e0 : (0 : Int) ≤ (n : Int) := by omega
  have hn6 : (n : Int) ≤ 6 := by omega
  go_enter Try.func78, Try.ntmps78
  go_wp2
  go_loopw [6, 7] (fun v6 v7 wr => ∃ (i : Nat) (a : Option Addr) (l c : Nat), i ≤ n ∧ v7 = .int .i64 i ∧ v6 = .slice a l c ∧ Hid (l = i) ∧ OwnP wr w.heap.size (.slice a l c) ((tabF n (mulT n A B)).take i) ∧ (∀ r c, r < i → c < n → inB (mulT n A B r c) (-1000000000) 1000000000 = true) ∧ Below w.heap.size w wr) (fun _ v7 _ => n - (intOf v7).toNat)
  case atStart => exact ⟨0, _, _, _, Nat.zero_le _, rfl, rfl, Lib.hid rfl, OwnP.emptyRow (heap_alloc_new w _) (Nat.le_refl _), fun r c hr => absurd hr (Nat.not_lt_zero _), below1 w _⟩
  case round =>
    obtain ⟨i, ao, l, c, hi, rfl, rfl, hl, hO, hok, hBr⟩ := hrel
    obtain ⟨wo, rfl⟩ : ∃ wo : World, wo = wr := ⟨_, rfl⟩
    have HO := Lib.hid hO
    have HOk := Lib.hid hok
    have HBo := Lib.hid hBr
    have hzw := hBr.size
    clear hO hok hBr
    by_cases hlt : i < n
    · have hR0 := RowG.made (HM.out wo).1 (HM.out wo).2
      have HR0 := Lib.hid hR0
      have hl6 : l ≤ 6 := by have := hl.out; omega
      have HTk := Lib.hid (tabF_take (F := mulT n A B) hlt)
      have HLt := Lib.hid (show l = ((tabF n (mulT n A B)).take i).length from by rw [List.length_take, tabF_length, hl.out]; omega)
      clear hR0
      go_wp2
      go_loopw [9] (fun v9 wr => ∃ (j : Nat) (f : Nat → Int), j ≤ n ∧ v9 = .int .i64 j ∧ RowG wr wo.heap.size n f ∧ (∀ c, c < j → f c = mulT n A B i c) ∧ (∀ c, j ≤ c → c < n → f c = 0) ∧ (∀ c, c < j → inB (mulT n A B i c) (-1000000000) 1000000000 = true) ∧ Below wo.heap.size wo wr) (fun v9 _ => n - (intOf v9).toNat)
      case atStart => exact ⟨0, _, Nat.zero_le _, rfl, HR0.out, fun c hc => absurd hc (Nat.not_lt_zero _), fun _ _ _ => rfl, fun c hc => absurd hc (Nat.not_lt_zero _), below1 wo O⟩
      case round =>
        obtain ⟨j, f, hj, rfl, hRj, hf1, hf0, hfo, hBj⟩ := hrel
        have HRj := Lib.hid hRj
        have HF1 := Lib.hid hf1
        have HF0 := Lib.hid hf0
        have HFo := Lib.hid hfo
        have HBj := Lib.hid hBj
        clear hRj hf1 hf0 hfo hBj
        by_cases hltj : j < n
        · go_wp2
          go_loopw [10] (fun v10 wr => ∃ (k : Nat) (f : Nat → Int), k ≤ n ∧ v10 = .int .i64 k ∧ RowG wr wo.heap.size n f ∧ (∀ c, c < j → f c = mulT n A B i c) ∧ (∀ c, j < c → c < n → f c = 0) ∧ f j = dotT A B i j k ∧ Below wo.heap.size wo wr) (fun v10 _ => n - (intOf v10).toNat)
          case atStart => exact ⟨0, f, Nat.zero_le _, rfl, HRj.out, HF1.out, fun c hc hcn => HF0.out c (by omega) hcn, HF0.out j (Nat.le_refl _) hltj, HBj.out⟩
          case round =>
            obtain ⟨k, f2, hk, rfl, hRk, hg1, hg0, hgj, hBk⟩ := hrel
            have HRk := Lib.hid hRk
            have HG1 := Lib.hid hg1
            have HG0 := Lib.hid hg0
            have HGj := Lib.hid hgj
            have HBk := Lib.hid hBk
            have hgs := hRk.1.1
            clear hRk hg1 hg0 hgj hBk
            by_cases hltk : k < n
            · have HBw := Lib.hid (HBo.out.trans (HBk.out.mono hzw))
              obtain ⟨ba, oa, xa, ca, ea, hba, d0, ba', oa', rfl, hba', d1⟩ := (RA.out.below HBw.out hhA).ent hlt
              subst ea
              have q1 := d1 k hltk
              obtain ⟨bb, ob, xb, cb, eb, hbb, e0', bb', ob', rfl, hbb', e1⟩ := (RB.out.below HBw.out hhB).ent hltk
              subst eb
              have q2 := e1 j hltj
              have q3 := HRk.out.2 j hltj
              rw [HGj.out] at q3
              have z3 := (HRk.out.1.2 j hltj).2
              have b1 := dotT_bd HA.out HB.out hlt hltj k (by omega)
              have b2 := prod_bd (HA.out i k hlt hltk) (HB.out k j hltk hltj)
              have HS := Lib.hid (show dotT A B i j (k + 1) = dotT A B i j k + A i k * B k j from rfl)
              have HSet := Lib.hid (HRk.out.set hltj (dotT A B i j k + A i k * B k j))
              have HBs := Lib.hid (HBk.out.setCell (p := ⟨wo.heap.size, j, none⟩) (Nat.le_refl _) (.int .i64 (dotT A B i j k + A i k * B k j)))
              clear d1 e1
              have hx : -6000000000000 ≤ dotT A B i j k ∧ dotT A B i j k ≤ 6000000000000 := by omega
              clear b1
              generalize dotT A B i j k = s at q3 hx HS HSet HBs HGj
              generalize A i k = x at q1 b2 HS HSet HBs
              generalize B k j = y at q2 b2 HS HSet HBs
              obtain ⟨p, hp⟩ : ∃ p, x * y = p := ⟨_, rfl⟩
              have hwp : IntKind.i64.wrap (x * y) = p := by rw [hp]; exact IntWalk.i64_in _ (by omega)
              have hws : IntKind.i64.wrap (s + p) = s + p := IntWalk.i64_in _ (by omega)
              rw [hp] at HS HSet HBs
              have hin : (i : Int) < (n : Int) := by omega
              have hjn : (j : Int) < (n : Int) := by omega
              have hkn : (k : Int) < (n : Int) := by omega
              clear hp b2 hx
              go_upto_region 12 with fail
              go_region
              all_goals
                go_wp2
                go_roundw
                case rel =>
                  refine ⟨k + 1, _, hltk, by go_num, HSet.out, fun c hc => ?_, fun c hc hcn => ?_, ?_, HBs.out.drew⟩
                  · show (if c = j then s + p else f2 c) = _
                    rw [if_neg (by omega)]; exact HG1.out c hc
                  · show (if c = j then s + p else f2 c) = _
                    rw [if_neg (by omega)]; exact HG0.out c hc hcn
                  · show (if j = j then s + p else f2 j) = _
                    rw [if_pos rfl]; exact HS.out.symm
                case measure => simp [intOf]; omega
            · obtain rfl : k = n := by omega
              have q3 := HRk.out.2 j hltj
              have HMj := Lib.hid (show f2 j = mulT k A B i j from HGj.out)
              rw [HMj.out] at q3
              have HN1 := Lib.hid (HNo.out i j hlt hltj)
              have hjn : (j : Int) < (k : Int) := by omega
              cases hin : inB (mulT k A B i j) (-1000000000) 1000000000 with
              | false =>
                have HR := Lib.hid (HN1.out hin)
                have HBw := Lib.hid (HBo.out.trans (HBk.out.mono hzw))
                go_wp2_with (go_at_call 51; refine (l01In_c _ _ _ _).mono ?_; rw [hin]; rintro e w' ⟨rfl, rfl⟩)
                go_ret2
                rw [HR.out]
                exact ⟨rfl, HBw.out⟩
              | true =>
                have HIn := Lib.hid hin
                go_wp2_with (go_at_call 51; refine (l01In_c _ _ _ _).mono ?_; rw [hin]; rintro e w' ⟨rfl, rfl⟩)
                go_roundw
                case rel =>
                  refine ⟨j + 1, f2, hltj, by go_num, HRk.out, fun c hc => ?_, fun c hc hcn => HG0.out c (by omega) hcn, fun c hc => ?_, HBk.out⟩
                  · by_cases e : c = j
                    · subst e; exact HMj.out
                    · exact HG1.out c (by omega)
                  · by_cases e : c = j
                    · subst e; exact HIn.out
                    · exact HFo.out c (by omega)
                case measure => simp [intOf]; omega
        · obtain rfl : j = n := by omega
          have HE := Lib.hid (show (List.range j).map f = (List.range j).map (mulT j A B i) from List.map_congr_left fun c hc => HF1.out c (List.mem_range.1 hc))
          have HZ := Lib.hid (HRj.out.newI (lo := wo.heap.size) (hi := wr.heap.size) (Nat.le_refl _) HRj.out.1.1)
          have hz2 := HBj.out.size
          go_wp2_with (at_builtin; refine wpList_append_path rfl _ _ rfl w.heap.size wo wr ao l c ((tabF j (mulT j A B)).take i) ((List.range j).map (mulT j A B i)) (some ⟨wo.heap.size, 0, none⟩) j j rfl HLt.out HO.out HBj.out (by have h := HZ.out; rw [HE.out] at h; exact h) (by simp) rfl (by omega) hzw ?_)
          intro a9 q9 w9 hO9 hB9 hz9
          have HO9 := Lib.hid (show OwnP w9 w.heap.size (.slice a9 (l + 1) q9) ((tabF j (mulT j A B)).take (i + 1)) from by rw [HTk.out]; exact hO9)
          have HB9 := Lib.hid (HBo.out.trans ((HBj.out.mono hzw).trans hB9))
          clear hO9 hB9
          go_wp2
          go_roundw
          case rel =>
            refine ⟨i + 1, a9, l + 1, q9, hlt, by go_num, rfl, Lib.hid (by rw [hl.out]), HO9.out, fun r c hr hc => ?_, HB9.out⟩
            by_cases e : r = i
            · subst e; exact HFo.out c hc
            · exact HOk.out r c (by omega) hc
          case measure => simp [intOf]; omega
    · obtain rfl : i = n := by omega
      have HR := Lib.hid (HYes.out HOk.out)
      go_wp2
      go_ret2
      have hr := HO.out.row
      rw [List.take_of_length_le (by rw [tabF_length]; exact Nat.le_refl _)] at hr
      rw [HR.out]
      exact ⟨ao, c, by rw [hl.out]; rfl, HBo.out, hr⟩
end Go.Proofs.Ytknigggjnjkhbaa
