/-
  The contract of the program's list of Lyndon words up to a length.
-/
import Derived.Test.YtolbgdgoambliaaLynG
import Derived.Test.YtolbgdgoambliaaJumps
import Derived.Test.YtolbgdgoambliaaWds8
import Derived.Laws.BytesArg
import Derived.WalkMore
namespace Go.Proofs.Ytolbgdgoambliaa
open Go.RowKit

def baL (w : List UInt8) : ByteArray := ⟨w.toArray⟩
/-- the frame at a label: the list `vl`, the word `vb` -/
def FrameL (D N : Nat) (vl vb : Value) (a : Act) : Prop :=
  ∃ (ui u9 u10 u11 u12 u13 u14 u15 u16 u17 u18 u19 u20 u21 u22 u23 u24 u25 u26 u27 u28 u29 u30 u31 u32 u33 u34 u35 u36 u37 u38 u39 u40 u41 u42 u43 u44 u45 u46 u47 u48 u49 u50 u51 u52 u53 u54 u55 u56 : Value), a = { tmps := #[.int .i64 D, .int .i64 N, undef, undef, .slice none 0 0, .int .u8 (47 + D), vl, vb, ui, u9, u10, u11, u12, u13, u14, u15, u16, u17, u18, u19, u20, u21, u22, u23, u24, u25, u26, u27, u28, u29, u30, u31, u32, u33, u34, u35, u36, u37, u38, u39, u40, u41, u42, u43, u44, u45, u46, u47, u48, u49, u50, u51, u52, u53, u54, u55, u56], defers := [] }
/-- what stands at a label: the words so far, the word at hand -/
def AtL (w : World) (acc : List ByteArray) (zs : List UInt8) (vl vb : Value) (W : World) : Prop :=
  OwnS W w.heap.size vl acc ∧ OwnY W w.heap.size vb (bysL zs) ∧ (∀ g, vb.ownBlock = some g → vl.ownBlock ≠ some g) ∧ Below w.heap.size w W
def J0 (w : World) (D N : Nat) (L : List (List UInt8)) (m : Nat) (a : Act) (W : World) : Prop :=
  ∃ (acc : List ByteArray) (zs : List UInt8) (f : Nat) (r : List (List UInt8)) (vl : Value) (g c : Nat), FrameL D N vl (.slice (some ⟨g, 0, none⟩) zs.length c) a ∧ AtL w acc zs vl (.slice (some ⟨g, 0, none⟩) zs.length c) W ∧
    m = 20 * f ∧ acc.length + f ≤ 2000 ∧ 0 < zs.length ∧ zs.length ≤ 8 ∧ TakeL (UInt8.ofNat (47 + D)) N f zs r ∧ L.map baL = acc ++ r.map baL
def J1 (w : World) (D N : Nat) (L : List (List UInt8)) (m : Nat) (a : Act) (W : World) : Prop :=
  ∃ (acc : List ByteArray) (zs : List UInt8) (f : Nat) (r : List (List UInt8)) (vl : Value) (g c : Nat), FrameL D N vl (.slice (some ⟨g, 0, none⟩) zs.length c) a ∧ AtL w acc zs vl (.slice (some ⟨g, 0, none⟩) zs.length c) W ∧
    m = 20 * f + 1 + zs.length ∧ acc.length + f ≤ 2000 ∧ zs.length ≤ 8 ∧ RaiseL (UInt8.ofNat (47 + D)) N f zs r ∧ L.map baL = acc ++ r.map baL
theorem ownsRow_aside {w w' : World} {r : Option Nat} {base : Nat} {e : TypeId} {size : Nat} {v : Value} {n : Nat} {xs : List Value} (h : w.ownsRow base e size v n xs) (hg : w.grownBy w' r) (hne : ∀ g, v.ownBlock = some g → r ≠ some g) : w'.ownsRow base e size v n xs := by
  obtain ⟨h1, h2 | ⟨g, cap, cur, rfl, hb, hh, rest⟩⟩ := h
  · exact ⟨h1, .inl h2⟩
  · have hlt : g < w.heap.size := by
      rcases Nat.lt_or_ge g w.heap.size with h' | h'
      · exact h'
      · rw [Array.getElem?_eq_none h'] at hh; cases hh
    exact ⟨h1, .inr ⟨g, cap, cur, rfl, hb, (hg.block g hlt (fun e => hne g rfl e.symm)).trans hh, rest⟩⟩
theorem strOfNums_bysL (zs : List UInt8) : strOfNums (bysL zs) = baL zs := by
  have e : ((fun n : Int => UInt8.ofNat n.toNat) ∘ fun c : UInt8 => (c.toNat : Int)) = id := by
    funext c
    simp
  unfold strOfNums bysL baL
  simp [e]
theorem bysL_getD (zs : List UInt8) (i : Nat) (h : i < zs.length) : (bysL zs).getD i 0 = ((zs.getD i 0).toNat : Int) := by
  simp [bysL, List.getD, h]
theorem cell_bysL {W : World} {base g c : Nat} {zs : List UInt8} (hY : OwnY W base (.slice (some ⟨g, 0, none⟩) zs.length c) (bysL zs)) {i : Nat} (hi : i < zs.length) : W.cell? ⟨g, i, none⟩ = some (.int .u8 ((zs.getD i 0).toNat : Int)) := by
  obtain ⟨ay, cy, hey, _, hNy⟩ := hY.newY
  injection hey with q1 q2 q3
  subst q1
  rcases hNy with h | ⟨g', hg', _, _, _, hin⟩
  · have := congrArg List.length h
    rw [bysL_length] at this
    simp only [List.length_nil] at this
    omega
  · cases hg'
    have := hin i (by rw [bysL_length]; exact hi)
    rw [Nat.zero_add] at this
    rw [this]
    simp [bysL, List.getD, hi]
set_option maxRecDepth 100000 in
set_option maxHeartbeats 4000000 in
theorem upTo_c (D N : Nat) (hd : 1 ≤ D ∧ D ≤ 3) (hn : 1 ≤ N ∧ N ≤ 8) (L : List (List UInt8)) (hL : genL (UInt8.ofNat (47 + D)) N 2000 [48] = some L) (w : World) :
    Calls Try.prog 39 #[.int .i64 D, .int .i64 N] w fun e w' => ∃ (a : Option Addr) (c : Nat), e = .returned (.slice a (L.map baL).length c) ∧ (L.map baL).length ≤ c ∧ Below w.heap.size w w' ∧ NewS w.heap.size w'.heap.size w' a (L.map baL) := by
  have e1 : (48 : Int) + (D : Int) - 1 = 47 + D := by omega
  have HL := Lib.hid hL
  clear hL
  go_enter Try.func39, Try.ntmps39
  go_wp2
  refine wp_labels2 (J0 w D N L) (J1 w D N L) rfl rfl ?_ ?_ ?_
  · intro Q' hq
    go_wp2
    go_step3
    rename_i K hK
    refine hK _ _ (hq 40000 _ _ ?_)
    refine ⟨[], [48], 2000, L, .slice none 0 0, w.heap.size, 1, ?_, ?_, by omega, by simp, by simp, by simp, HL.out, by simp⟩
    · exact ⟨_, _, _, _, _, _, _, _, _, _, _, _, _, _, _, _, _, _, _, _, _, _, _, _, _, _, _, _, _, _, _, _, _, _, _, _, _, _, _, _, _, _, _, _, _, _, _, _, _, rfl⟩
    · exact ⟨OwnS.nil _ _, OwnY.one _ _, by simp [Value.ownBlock], below1 _ _⟩
  · rintro m a W ⟨acc, zs, f, r, vl, g, c, ⟨ui, u9, u10, u11, u12, u13, u14, u15, u16, u17, u18, u19, u20, u21, u22, u23, u24, u25, u26, u27, u28, u29, u30, u31, u32, u33, u34, u35, u36, u37, u38, u39, u40, u41, u42, u43, u44, u45, u46, u47, u48, u49, u50, u51, u52, u53, u54, u55, u56, rfl⟩, ⟨hO, hY, hne, hB⟩, rfl, hf, h0, h8, hT, hLr⟩ Q' hq
    obtain ⟨f', r', rfl, rfl, hR⟩ := hT.next
    obtain ⟨al, cl, rfl, hle, hN⟩ := hO.newS
    have hcv : (convert 22 9 (.slice (some ⟨g, 0, none⟩) zs.length c)).run Try.prog W = .ok (.string (baL zs)) W := by
      have h := run_convert_bytes_arg (P := Try.prog) W 22 5 Try.underlying22 Try.underlying5 g 0 zs.length c (bysL zs) (bysL_length zs) (fun i hi => by
        rw [Nat.zero_add, bysL_getD zs i hi]
        exact cell_bysL hY hi) 9 Try.underlying9
      rw [h, strOfNums_bysL]
    have hz := hB.size
    have hgb : g < W.heap.size := (hY.lt g rfl).2
    have HO := Lib.hid hO
    have HY := Lib.hid hY
    have HB := Lib.hid hB
    have HNe := Lib.hid hne
    have HR := Lib.hid hR
    have HLr := Lib.hid hLr
    clear hO hY hB hne hR hLr hN hT
    go_wp2_with (at_builtin; refine wpList_append_strs rfl _ _ rfl w.heap.size (.slice al acc.length cl) acc.length acc [baL zs] rfl rfl (HO.out.alloc _) _ 1 1 rfl rfl (.inr ⟨_, 0, rfl, strs_one _ _⟩) (by omega) (by simp; omega) ?_)
    intro a3 c3 w3 hO3 hG3 hW3
    have hY3 : OwnY w3 w.heap.size (.slice (some ⟨g, 0, none⟩) zs.length c) (bysL zs) := ownsRow_aside (HY.out.alloc _) hG3 (fun g' hg' => HNe.out g' hg')
    have hne3 : (Value.slice a3 (acc.length + 1) c3).ownBlock ≠ some g := by
      rcases hW3 with h | h
      · rw [h]; exact HNe.out g rfl
      · rw [h]; simp; omega
    have HO3 := Lib.hid hO3
    have HB3 := Lib.hid (HB.out.trans (((below1 _ _).mono hz).trans (own_grownS (HO.out.alloc _) hG3 (by simp; omega))))
    have HY3 := Lib.hid hY3
    have HNe3 := Lib.hid hne3
    clear hO3 hG3 hW3 hY3 hne3 hcv HO HY HB HNe
    go_wp2_with fail
    go_loopw [7, 8] (fun vb vi wr => ∃ (ws : List UInt8) (i k g' c' : Nat), vb = .slice (some ⟨g', 0, none⟩) ws.length c' ∧ vi = .int .i64 i ∧ i < ws.length ∧ ws.length ≤ 8 ∧ extL N k i ws = extL N N 0 zs ∧ N ≤ ws.length + k ∧ OwnY wr w.heap.size (.slice (some ⟨g', 0, none⟩) ws.length c') (bysL ws) ∧ OwnS wr w.heap.size (.slice a3 (acc.length + 1) c3) (acc ++ [baL zs]) ∧ (Value.slice a3 (acc.length + 1) c3).ownBlock ≠ some g' ∧ Below w.heap.size w wr) (fun vb _ _ => 8 - (match vb with | .slice _ n _ => n | _ => 0))
    case atStart => exact ⟨zs, 0, N, g, c, rfl, rfl, h0, h8, rfl, by omega, HY3.out, HO3.out, HNe3.out, HB3.out⟩
    case round =>
      obtain ⟨ws, i, k, g', c', rfl, rfl, hi, hw8, hx, hk, hYr, hOr, hnr, hBr⟩ := hrel
      have hcell := cell_bysL hYr hi
      have hgb' : g' < wr.heap.size := (hYr.lt g' rfl).2
      have hzr := hBr.size
      have HX := Lib.hid hx
      have HYr := Lib.hid hYr
      have HOr := Lib.hid hOr
      have HNr := Lib.hid hnr
      have HBr := Lib.hid hBr
      clear hx hYr hOr hnr hBr
      by_cases hlt : ws.length < N
      · obtain ⟨k', rfl⟩ : ∃ k', k = k' + 1 := ⟨k - 1, by omega⟩
        generalize hb : ws.getD i 0 = b at hcell
        have HBb := Lib.hid hb
        clear hb
        go_wp2_with (at_builtin; refine wpList_append_bys rfl _ _ rfl w.heap.size (.slice (some ⟨g', 0, none⟩) ws.length c') ws.length (bysL ws) [(b.toNat : Int)] rfl (bysL_length ws).symm (HYr.out.alloc _) _ 1 1 rfl rfl (.inr ⟨_, 0, rfl, bys_one _ _⟩) (by omega) (by simp; omega) ?_)
        intro a4 c4 w4 hY4 hG4 hW4
        obtain ⟨ay, cy, hey, _, hNy⟩ := hY4.newY
        injection hey with q1 q2 q3
        subst q1 q3
        obtain ⟨g4, rfl⟩ : ∃ g4, a4 = some ⟨g4, 0, none⟩ := by
          rcases hNy with h | ⟨g4, hg4, _⟩
          · have := congrArg List.length h
            simp at this
          · exact ⟨g4, hg4⟩
        have hO4 : OwnS w4 w.heap.size (.slice a3 (acc.length + 1) c3) (acc ++ [baL zs]) := ownsRow_aside (HOr.out.alloc _) hG4 (fun g0 hg0 => by
          intro h
          have : g' = g0 := Option.some.inj h
          subst this
          exact HNr.out hg0)
        have hn4 : (Value.slice a3 (acc.length + 1) c3).ownBlock ≠ some g4 := by
          intro h
          rcases hW4 with h' | h'
          · have : g4 = g' := Option.some.inj h'
            subst this
            exact HNr.out h
          · have e : g4 = (wr.heap.size + 1) := by simpa using Option.some.inj h'
            have := (HOr.out.lt g4 h).2
            omega
        have hB4 := HBr.out.trans (((below1 _ _).mono hzr).trans (own_grownY (HYr.out.alloc _) hG4 (by simp; omega)))
        have HO4 := Lib.hid hO4
        have HN4 := Lib.hid hn4
        have HB4 := Lib.hid hB4
        have HY4 := Lib.hid hY4
        clear hO4 hn4 hB4 hY4 hG4 hW4 hNy
        go_wp2
        go_roundw
        case rel =>
          have hlen : (ws ++ [b]).length = ws.length + 1 := by simp
          refine ⟨ws ++ [b], i + 1, k', g4, c4, by rw [hlen], by congr 1, by omega, by omega, ?_, by omega, ?_, HO4.out, HN4.out, HB4.out⟩
          · rw [← HX.out, extL_step hlt, HBb.out]
          · rw [hlen, show bysL (ws ++ [b]) = bysL ws ++ [(b.toNat : Int)] by simp [bysL]]
            exact HY4.out
        case measure => simp; omega
      · have HE := Lib.hid (extL_end (n := N) (i := i) hlt k)
        go_wp2
        go_step3
        rename_i K hK
        refine hK _ _ (hq (20 * f' + 1 + ws.length) _ _ (by omega) ?_)
        refine ⟨acc ++ [baL zs], ws, f', r', .slice a3 (acc.length + 1) c3, g', c', ⟨_, _, _, _, _, _, _, _, _, _, _, _, _, _, _, _, _, _, _, _, _, _, _, _, _, _, _, _, _, _, _, _, _, _, _, _, _, _, _, _, _, _, _, _, _, _, _, _, _, rfl⟩, ⟨HOr.out, HYr.out, ?_, HBr.out⟩, rfl, by simp; omega, hw8, ?_, ?_⟩
        · intro g0 hg0
          cases hg0
          exact HNr.out
        · have h := HR.out
          rw [← HX.out, HE.out] at h
          exact h
        · rw [HLr.out]; simp
  · rintro m a W ⟨acc, zs, f, r, vl, g, c, ⟨ui, u9, u10, u11, u12, u13, u14, u15, u16, u17, u18, u19, u20, u21, u22, u23, u24, u25, u26, u27, u28, u29, u30, u31, u32, u33, u34, u35, u36, u37, u38, u39, u40, u41, u42, u43, u44, u45, u46, u47, u48, u49, u50, u51, u52, u53, u54, u55, u56, rfl⟩, ⟨hO, hY, hne, hB⟩, rfl, hf, h8, hR, hLr⟩
    obtain ⟨al, cl, rfl, hle, hN⟩ := hO.newS
    have hLast : (UInt8.ofNat (47 + D)).toNat = 47 + D := by
      rw [UInt8.toNat_ofNat']
      omega
    rcases List.eq_nil_or_concat zs with rfl | ⟨zt, x, rfl⟩
    · have hr := hR.nil
      subst hr
      have HLr := Lib.hid hLr
      have HN := Lib.hid hN
      have HB := Lib.hid hB
      clear hLr hN hB hR hO hY hne
      go_wp2
      simp only [exitTo]
      go_ret
      refine ⟨al, cl, ?_, ?_, HB.out, ?_⟩
      · rw [HLr.out]; simp
      · rw [HLr.out]; simpa using hle
      · rw [HLr.out]; simpa using HN.out
    · rw [List.concat_eq_append] at *
      have hlen : (zt ++ [x]).length = zt.length + 1 := by simp
      rw [hlen] at hY h8 hne ⊢
      have hby : bysL (zt ++ [x]) = bysL zt ++ [(x.toNat : Int)] := by simp [bysL]
      rw [hby] at hY
      have hll : (bysL zt ++ [(x.toNat : Int)]).length = zt.length + 1 := by simp [bysL]
      have hcell : W.cell? ⟨g, zt.length, none⟩ = some (.int .u8 x.toNat) := by
        obtain ⟨ay, cy, hey, _, hNy⟩ := hY.newY
        injection hey with q1 q2 q3
        subst q1
        rcases hNy with h | ⟨g', hg', _, _, _, hin⟩
        · exact absurd (congrArg List.length h) (by rw [hll]; simp)
        · cases hg'
          have := hin zt.length (by rw [hll]; omega)
          rw [Nat.zero_add] at this
          rw [this]
          simp [bysL]
      have hfz : W.frozen? ⟨g, zt.length, none⟩ = false := by
        have h' := hY
        unfold OwnY at h'
        rw [hll] at h'
        exact h'.frozenAt _
      have hgb : g < W.heap.size := (hY.lt g rfl).2
      have hcap : zt.length + 1 ≤ c := by
        obtain ⟨ay, cy, hey, hlc, _⟩ := hY.newY
        injection hey with q1 q2 q3
        omega
      have hcap1 : zt.length ≤ c := by omega
      have hxl := x.toNat_lt
      have HO := Lib.hid hO
      have HY := Lib.hid hY
      have HB := Lib.hid hB
      have HNe := Lib.hid hne
      have HR := Lib.hid hR
      have HLr := Lib.hid hLr
      clear hO hY hB hne hR hLr hN hby hll
      by_cases hx : x.toNat < 47 + D
      · have hxi : (x.toNat : Int) < 47 + D := by omega
        have hxl' : x < UInt8.ofNat (47 + D) := by rw [UInt8.lt_iff_toNat_lt, hLast]; exact hx
        go_wp2
        go_step3
        refine ⟨20 * f, by omega, .inl ⟨rfl, ?_⟩⟩
        have hy : ((x + 1).toNat : Int) = x.toNat + 1 := by
          rw [UInt8.toNat_add]
          simp
          omega
        have hlen1 : (zt ++ [x + 1]).length = zt.length + 1 := by simp
        refine ⟨acc, zt ++ [x + 1], f, r, .slice al acc.length cl, g, c, ?_, ?_, rfl, hf, by omega, by omega, HR.out.up hxl', HLr.out⟩
        · rw [hlen1]
          exact ⟨_, _, _, _, _, _, _, _, _, _, _, _, _, _, _, _, _, _, _, _, _, _, _, _, _, _, _, _, _, _, _, _, _, _, _, _, _, _, _, _, _, _, _, _, _, _, _, _, _, rfl⟩
        · rw [hlen1]
          have hst : OwnY (W.setCell ⟨g, zt.length, none⟩ (.int .u8 ((x + 1).toNat : Int))) w.heap.size (.slice (some ⟨g, 0, none⟩) (zt.length + 1) c) (bysL zt ++ [((x + 1).toNat : Int)]) := HY.out.put (by simp [bysL]) _
          have hgr : Below w.heap.size w (W.setCell ⟨g, zt.length, none⟩ (.int .u8 ((x + 1).toNat : Int))) := HB.out.setCell (HY.out.lt g rfl).1 _
          have hos := HO.out.far (p := ⟨g, zt.length, none⟩) (HNe.out g rfl) (.int .u8 ((x + 1).toNat : Int))
          rw [hy] at hst hgr hos
          refine ⟨?_, ?_, HNe.out, ?_⟩
          · first | exact hos | fail
          · rw [show bysL (zt ++ [x + 1]) = bysL zt ++ [(x.toNat : Int) + 1] by rw [← hy]; simp [bysL]]
            exact hst
          · exact hgr
      · have hxi : ¬ (x.toNat : Int) < 47 + D := by omega
        have hxl' : ¬ x < UInt8.ofNat (47 + D) := by rw [UInt8.lt_iff_toNat_lt, hLast]; exact hx
        go_wp2
        go_step3
        refine ⟨20 * f + 1 + zt.length, by omega, .inr ⟨rfl, ?_⟩⟩
        refine ⟨acc, zt, f, r, .slice al acc.length cl, g, c, ⟨_, _, _, _, _, _, _, _, _, _, _, _, _, _, _, _, _, _, _, _, _, _, _, _, _, _, _, _, _, _, _, _, _, _, _, _, _, _, _, _, _, _, _, _, _, _, _, _, _, rfl⟩, ⟨HO.out, ?_, HNe.out, HB.out⟩, rfl, hf, by omega, HR.out.down hxl', HLr.out⟩
        exact OwnY.cut (z := (x.toNat : Int)) HY.out
end Go.Proofs.Ytolbgdgoambliaa
