/-
  The model's commutator of two matrices of whole numbers.
-/
import Derived.Test.YtngpnbdndkddlaaDoorComT
import Derived.Test.YtngpnbdndkddlaaDoorTimT
namespace Go.Proofs.YtngpnbdndkddlaaDoor
open Go.RowKit

theorem OwnI.none_yet {w : World} {base g : Nat} (h : w.heap[g]? = some (.cells #[] 2 (0, 0))) (hb : base ≤ g) : OwnI w base (.slice (some ⟨g, 0, none⟩) 0 0) [] :=
  ⟨rfl, .inr ⟨g, 0, #[], rfl, hb, h, Nat.le_refl _, by unfold maxLen; omega, rfl, rfl⟩⟩
/-- the append of one number, as one step of a region that draws -/
theorem step_num {ops : Array Oper} {o : Oper} {a : Act} {W : World} {K : Act → World → Prop} {Q : Exit → Act → World → Prop} {E : Prop} (hgd : o.guard = none) (s x : Operand)
    (ho : o.op = .call { callee := .builtin .append, args := #[s, x], argTypes := #[22, 22] }) (base : Nat) (v : Value) (n : Nat) (zs : List Int) (z : Int) (hs : a.eval s = v)
    (hown : OwnI W base v zs) (hn : n = zs.length) (hx : a.eval x = .slice (some ⟨W.heap.size, 0, none⟩) 1 1) (h9 : n ≤ 100) (hbase : base ≤ W.heap.size)
    (h : ∀ gg cg w', OwnI w' base (.slice (some ⟨gg, 0, none⟩) (n + 1) cg) (zs ++ [z]) → (W.alloc (.cells #[.int .i64 z] 2)).grownBy w' v.ownBlock → K (a.put o.dst (.slice (some ⟨gg, 0, none⟩) (n + 1) cg)) w') :
    if Region.wanted o (yielded ops a.tmps) = true then Oper.wp Tryd.prog o a (W.alloc (.cells #[.int .i64 z] 2)) K Q else E := by
  obtain ⟨i0, hi0, hi1, hi2, hi3⟩ := info_parts info_int64
  refine step_append_lies _ hgd s x 22 ho base 2 i0 _ 1 8 Tryd.underlying22 hi0 hi1 hi2 hi3 rfl (by omega) v n (cellsI zs) hs
    (by have h := hown.alloc (.cells #[.int .i64 z] 2); unfold OwnI at h; rw [← hn] at h; exact h)
    ⟨W.heap.size, 0, none⟩ 1 1 [.int .i64 z] hx rfl
    (World.news_of_block (cs := #[.int .i64 z]) (t := 2) (fr := (0, 0)) (heap_alloc_new W _))
    (by simp [Value.oneCell']) (by omega) (by unfold maxLen; omega) (by omega) (by simp; omega) (W.heap.size + 1) (by simp) ?_
  intro gg cg w' h1 h2 _ _
  refine h gg cg w' ?_ h2
  unfold OwnI
  rw [List.length_append, ← hn, cellsI_append]
  exact h1
def rowT (n : Nat) (G : MF) (i : Nat) : List Int := (List.range n).map (G i)
theorem rowT_length (n : Nat) (G : MF) (i : Nat) : (rowT n G i).length = n := by simp [rowT]
theorem rowT_take {n : Nat} {G : MF} {i j : Nat} (h : j < n) : (rowT n G i).take (j + 1) = (rowT n G i).take j ++ [G i j] := by
  rw [List.take_succ_eq_append_getElem (by rw [rowT_length]; exact h)]
  simp [rowT]

set_option maxRecDepth 100000 in
set_option maxHeartbeats 8000000 in
theorem l08Commutator_c (n : Nat) (hn : 1 ≤ n ∧ n ≤ 6) (loA hiA loB hiB : Nat) (a b : Option Addr) (cA cB : Nat) (A B : MF) (hA : BdF n 1000 A) (hB : BdF n 1000 B) (w : World) (rA : PRow loA hiA w a (tabF n A)) (rB : PRow loB hiB w b (tabF n B)) (hhA : hiA ≤ w.heap.size) (hhB : hiB ≤ w.heap.size) :
    Calls Tryd.prog 42 #[.slice a n cA, .slice b n cB] w fun e w' => ∃ a' c', e = .returned (.slice a' n c') ∧ Below w.heap.size w w' ∧ PRow w.heap.size w'.heap.size w' a' (tabF n (fun r c => mulT n A B r c - mulT n B A r c)) := by
  have hA9 : BdF n 1000000000 A := fun i j hi hj => by have := hA i j hi hj; omega
  have hB9 : BdF n 1000000000 B := fun i j hi hj => by have := hB i j hi hj; omega
  have b1 := mul2_bd hn.2 hA hB
  have b2 := mul2_bd hn.2 hB hA
  have HT1 := Lib.hid (ok_of_bd b1 ▸ l08Times_c n hn loA hiA loB hiB a b cA cB A B hA9 hB w rA rB hhA hhB)
  have HT2 := Lib.hid (fun W r1 r2 h1 h2 => (ok_of_bd b2 ▸ l08Times_c n hn loB hiB loA hiA b a cB cA B A hB9 hA W r1 r2 h1 h2 : Calls Tryd.prog 72 #[.slice b n cB, .slice a n cA] W (TimPost n (mulT n B A) true W)))
  have HB1 := Lib.hid b1
  have HB2 := Lib.hid b2
  have RA := Lib.hid rA
  have RB := Lib.hid rB
  clear hA9 hB9 b1 b2 hA hB rA rB
  generalize mulT n A B = P at *
  generalize mulT n B A = Q at *
  obtain ⟨G, hG⟩ : ∃ G : MF, (fun r c => P r c - Q r c) = G := ⟨_, rfl⟩
  have HG := Lib.hid (show ∀ r c, G r c = P r c - Q r c from fun r c => by rw [← hG])
  rw [hG]
  clear hG
  have hn6 : (n : Int) ≤ 6 := by omega
  go_enter Tryd.func42, Tryd.ntmps42
  go_wp2_with fail
  refine HT1.out.mono ?_
  rintro e w1 ⟨a1, c1, rfl, hb1, hP1⟩
  have HBw1 := Lib.hid hb1
  have HP1 := Lib.hid hP1
  have hz1 := hb1.size
  clear hb1 hP1
  go_wp2_with fail
  refine (HT2.out _ (RB.out.below HBw1.out hhB) (RA.out.below HBw1.out hhA) (by omega) (by omega)).mono ?_
  rintro e w2 ⟨a2, c2, rfl, hb2, hP2⟩
  have HBw2 := Lib.hid (HBw1.out.trans (hb2.mono hz1))
  have HP1b := Lib.hid (HP1.out.below hb2 (Nat.le_refl _))
  have HP2 := Lib.hid hP2
  have hz2 := hb2.size
  clear hb2 hP2
  go_wp2
  go_loopw [9, 10] (fun v9 v10 wr => ∃ (i : Nat) (a : Option Addr) (l c : Nat), i ≤ n ∧ v10 = .int .i64 i ∧ v9 = .slice a l c ∧ Hid (l = i) ∧ OwnP wr w2.heap.size (.slice a l c) ((tabF n G).take i) ∧ Below w2.heap.size w2 wr) (fun _ v10 _ => n - (intOf v10).toNat)
  case atStart => exact ⟨0, _, _, _, Nat.zero_le _, rfl, rfl, Lib.hid rfl, OwnP.emptyRow (heap_alloc_new w2 _) (Nat.le_refl _), below1 w2 _⟩
  case round =>
    obtain ⟨i, ao, l, c, hi, rfl, rfl, hl, hO, hB⟩ := hrel
    obtain ⟨wo, rfl⟩ : ∃ wo : World, wo = wr := ⟨_, rfl⟩
    have HO := Lib.hid hO
    have HBo := Lib.hid hB
    have hzo := hB.size
    clear hO hB
    by_cases hlt : i < n
    · have hl6 : l ≤ 6 := by have := hl.out; omega
      have HTk := Lib.hid (tabF_take (F := G) hlt)
      have HLt := Lib.hid (show l = ((tabF n G).take i).length from by rw [List.length_take, tabF_length, hl.out]; omega)
      go_wp2
      go_loopw [11, 12] (fun v11 v12 wr => ∃ (j : Nat) (b : Option Addr) (l2 c2 : Nat), j ≤ n ∧ v12 = .int .i64 j ∧ v11 = .slice b l2 c2 ∧ Hid (l2 = j) ∧ OwnI wr wo.heap.size (.slice b l2 c2) ((rowT n G i).take j) ∧ Below wo.heap.size wo wr) (fun _ v12 _ => n - (intOf v12).toNat)
      case atStart => exact ⟨0, _, _, _, Nat.zero_le _, rfl, rfl, Lib.hid rfl, OwnI.none_yet (heap_alloc_new wo _) (Nat.le_refl _), below1 wo _⟩
      case round =>
        obtain ⟨j, bo, l2, c2', hj, rfl, rfl, hl2, hO2, hB2⟩ := hrel
        have HO2 := Lib.hid hO2
        have HBj := Lib.hid hB2
        have hzj := hB2.size
        clear hO2 hB2
        by_cases hltj : j < n
        · have HBw := Lib.hid (HBo.out.trans (HBj.out.mono hzo))
          obtain ⟨ba, oa, xa, ca, ea, hba, d0, ba', oa', rfl, hba', d1⟩ := (HP1b.out.below (B := w2.heap.size) HBw.out hz2).ent hlt
          subst ea
          have q1 := d1 j hltj
          obtain ⟨bb, ob, xb, cb, eb, hbb, e0', bb', ob', rfl, hbb', e1⟩ := (HP2.out.below (B := w2.heap.size) HBw.out (Nat.le_refl _)).ent hlt
          subst eb
          have q2 := e1 j hltj
          have x1 := HB1.out i j hlt hltj
          have x2 := HB2.out i j hlt hltj
          have HTr := Lib.hid (rowT_take (G := G) (i := i) hltj)
          rw [HG.out i j] at HTr
          have HLr := Lib.hid (show l2 = ((rowT n G i).take j).length from by rw [List.length_take, rowT_length, hl2.out]; omega)
          have hl26 : l2 ≤ 6 := by have := hl2.out; omega
          clear d1 e1
          generalize P i j = x at q1 x1 HTr
          generalize Q i j = y at q2 x2 HTr
          have hws : IntKind.i64.wrap (x - y) = x - y := IntWalk.i64_in _ (by omega)
          have hin : (i : Int) < (n : Int) := by omega
          have hjn : (j : Int) < (n : Int) := by omega
          go_upto_region 11 with fail
          go_region_law (first
            | (refine step_num (W := wr.drew) rfl (.tmp 39) (.tmp 55) rfl wo.heap.size (.slice bo l2 c2') l2 ((rowT n G i).take j) (x - y) rfl HO2.out HLr.out rfl (by omega) hzj ?_; intro gg cg w9 hO9 hG9))
          all_goals
            have HB9 := Lib.hid (HBj.out.trans ((((Below.refl wo.heap.size wr).drew).alloc hzj (.cells #[.int .i64 (x - y)] 2)).trans (below_of_grown hG9 (fun g h => (HO2.out.lt g h).1) (by simp; omega))))
            have HO9 := Lib.hid hO9
            clear hO9 hG9
            go_wp2
            go_roundw
            case rel => exact ⟨j + 1, some ⟨gg, 0, none⟩, l2 + 1, cg, hltj, by go_num, rfl, Lib.hid (by rw [hl2.out]), by rw [HTr.out]; exact HO9.out, HB9.out⟩
            case measure => simp [intOf]; omega
        · obtain rfl : j = n := by omega
          have hN := HO2.out.newI
          rw [List.take_of_length_le (by rw [rowT_length]; exact Nat.le_refl _)] at hN
          obtain ⟨xa, xc, he, _, hN⟩ := hN
          injection he with he1 he2 he3
          subst he1
          have HN := Lib.hid hN
          have hl2n : l2 = (rowT j G i).length := by rw [rowT_length]; exact hl2.out
          have HL2 := Lib.hid hl2n
          clear hN he2 he3 hl2n
          go_wp2_with (at_builtin; refine wpList_append_path rfl _ _ rfl w2.heap.size wo wr ao l c ((tabF j G).take i) (rowT j G i) bo l2 c2' rfl HLt.out HO.out HBj.out HN.out HL2.out rfl (by omega) hzo ?_)
          intro a9 q9 w9 hO9 hB9 hz9
          have HO9 := Lib.hid (show OwnP w9 w2.heap.size (.slice a9 (l + 1) q9) ((tabF j G).take (i + 1)) from by rw [HTk.out]; exact hO9)
          have HB9 := Lib.hid (HBo.out.trans ((HBj.out.mono hzo).trans hB9))
          clear hO9 hB9
          go_wp2
          go_roundw
          case rel => exact ⟨i + 1, a9, l + 1, q9, hlt, by go_num, rfl, Lib.hid (by rw [hl.out]), HO9.out, HB9.out⟩
          case measure => simp [intOf]; omega
    · obtain rfl : i = n := by omega
      go_wp2
      go_ret
      have hr := HO.out.row
      rw [List.take_of_length_le (by rw [tabF_length]; exact Nat.le_refl _)] at hr
      exact ⟨ao, c, by rw [hl.out]; rfl, HBw2.out.trans (HBo.out.mono HBw2.out.size), hr.mono (by omega) (Nat.le_refl _)⟩
end Go.Proofs.YtngpnbdndkddlaaDoor
