/-
  The path of a group word: a step of one for each number. PathOfWord: contracts of the program and of the model.
-/
import Derived.Test.YtnhiceopgjfaaaaGrp
import Derived.Test.YtnhiceopgjfaaaaPathRes
import Derived.Handy
namespace Go.Proofs.Ytnhiceopgjfaaaa
open Go.RowKit

/-- the number at the letter `i` of the step of a number -/
def uG (x : Int) (i : Nat) : Int := if x = (i : Int) + 1 then 1 else if x = -((i : Int) + 1) then -1 else 0
def mvG (x : Int) : Mv := ⟨uG x 0, uG x 1, uG x 2⟩
def stG (D : Nat) (x : Int) : List Int := stepOf D (mvG x)
def pthG (D : Nat) (z : List Int) : List (List Int) := z.map (stG D)
def Six (x : Int) : Prop := x = -3 ∨ x = -2 ∨ x = -1 ∨ x = 1 ∨ x = 2 ∨ x = 3
theorem six_of {d : Int} {z : List Int} (h : GoodD d z) : ∀ x ∈ z, Six x := fun x hx => by
  have h1 := h.lo x hx
  have h2 := h.hi x hx
  have h3 := h.d3
  have h4 := h.ne x hx
  unfold Six
  omega
theorem uG_bd (x : Int) (i : Nat) : -1 ≤ uG x i ∧ uG x i ≤ 1 := by
  unfold uG
  split
  · omega
  · split <;> omega
theorem stG_length {D : Nat} (h : D ≤ 3) (x : Int) : (stG D x).length = D := stepOf_length h _
theorem stG_get {D : Nat} (_h : D ≤ 3) (x : Int) (i : Nat) (hi : i < (stG D x).length) : (stG D x)[i] = uG x i := by
  have hi2 : i < ([uG x 0, uG x 1, uG x 2] : List Int).length := by
    have : (stG D x).length ≤ ([uG x 0, uG x 1, uG x 2] : List Int).length := by simp [stG, stepOf, mvG]; omega
    omega
  have e : (stG D x)[i] = ([uG x 0, uG x 1, uG x 2] : List Int)[i] := by simp [stG, stepOf, mvG]
  rw [e]
  have : i = 0 ∨ i = 1 ∨ i = 2 := by simp at hi2; omega
  rcases this with rfl | rfl | rfl <;> rfl
theorem pthG_length (D : Nat) (z : List Int) : (pthG D z).length = z.length := by simp [pthG]
theorem pthG_ok {D : Nat} {z : List Int} (h : GoodD (D : Int) z) : pathB (D : Int) (pthG D z) = true := by
  have hd : 1 ≤ D ∧ D ≤ 3 := by have := h.d1; have := h.d3; omega
  refine pathB_good (by unfold inB; simp; omega) (by rw [pthG_length]; exact h.len) fun i hi => ?_
  have hi' : i < z.length := by rwa [pthG_length] at hi
  have e : (pthG D z)[i] = stG D z[i] := by simp [pthG]
  rw [e]
  refine stepB_good (by rw [stG_length hd.2]) fun j hj => ?_
  rw [stG_get hd.2]
  have := uG_bd z[i] j
  unfold inB
  simp
  omega
theorem pthG_take {D : Nat} {z : List Int} {k : Nat} (h : k < z.length) : pthG D (z.take (k + 1)) = pthG D (z.take k) ++ [stG D z[k]] := by
  unfold pthG; rw [List.take_succ_eq_append_getElem h, List.map_append]; rfl
theorem mvG_take {z : List Int} {k : Nat} (h : k < z.length) : (z.map mvG).take (k + 1) = (z.map mvG).take k ++ [mvG z[k]] := by
  rw [List.take_succ_eq_append_getElem (by simpa using h), List.getElem_map]
/-- the row of noughts with a one at the letter of a number -/
theorem stG_set {D : Nat} (hD : D ≤ 3) (x : Int) (j : Nat) (s : Int) (_hj : j < D) (hx : (x = (j : Int) + 1 ∧ s = 1) ∨ (x = -((j : Int) + 1) ∧ s = -1)) : (List.replicate D (0 : Int)).set j s = stG D x := by
  apply List.ext_getElem
  · simp [stG_length hD]
  · intro i h1 h2
    rw [stG_get hD, List.getElem_set, List.getElem_replicate]
    unfold uG
    by_cases e : j = i
    · subst e
      rw [if_pos rfl]
      rcases hx with ⟨h, rfl⟩ | ⟨h, rfl⟩
      · rw [if_pos h]
      · rw [if_neg (by omega), if_pos h]
    · rw [if_neg e, if_neg (by omega), if_neg (by omega)]

theorem wpList_append_path2 {ops : Array Oper} {rest : List Oper} {o : Oper} {act : Act} {Q : Exit → Act → World → Prop} (hgd : o.guard = none) (s x : Operand)
    (ho : o.op = .call { callee := .builtin .append, args := #[s, x], argTypes := #[31, 31] })
    (base : Nat) (w0 w : World) (b : Option Addr) (l c : Nat) (ps : List (List Int)) (z : List Int) (a : Option Addr) (n k nb : Nat) (hs : act.eval s = .slice b l c) (hl : l = ps.length) (hown : OwnP w0 base (.slice b l c) ps) (hb : Below w0.heap.size w0 w)
    (hz : NewI w0.heap.size w.heap.size w a z) (hn : n = z.length) (hnb : nb = w.heap.size) (hx : act.eval x = .slice (some ⟨nb, 0, none⟩) 1 1) (hbig : l + 1 ≤ 4194304) (hbase : base ≤ w0.heap.size)
    (h : ∀ a' c' w', OwnP w' base (.slice a' (l + 1) c') (ps ++ [z]) → Below base w w' → w.heap.size ≤ w'.heap.size → wpList Try.prog ops Q rest (act.put o.dst (.slice a' (l + 1) c')) w') :
    wpList Try.prog ops Q (o :: rest) act (w.alloc (.cells #[.slice a n k] 22)) := by
  subst hnb
  exact wpList_append_path hgd s x ho base w0 w b l c ps z a n k hs hl hown hb hz hn hx hbig hbase h

theorem moveAlong_c (x : Int) (hx : Six x) (w : World) :
    Calls Try.prog 52 #[.int .i64 x] w fun e w' => e = .returned (.agg #[.int .i64 (uG x 0), .int .i64 (uG x 1), .int .i64 (uG x 2)]) ∧ Below w.heap.size w w' := by
  unfold Six at hx
  rcases hx with rfl | rfl | rfl | rfl | rfl | rfl <;>
  · go_enter Try.func52, Try.ntmps52
    go_wp2
    exact bodyPost_ret (v := .agg #[.int .i64 (uG _ 0), .int .i64 (uG _ 1), .int .i64 (uG _ 2)]) (by simp [results, Try.results52, go_sem]; decide) rfl ⟨rfl, by go_grown⟩

section
variable (D : Nat) (a : Option Addr) (cap : Nat) (z : List Int) (hl : z.length ≤ 1048576) (w : World) (hr : IRow 0 w.heap.size w a z)
include hl hr
set_option maxRecDepth 100000 in
set_option maxHeartbeats 4000000 in
theorem iPathOfWord_2 (h : grpB (D : Int) z = true) : Calls Try.prog 30 #[.int .i64 D, .slice a z.length cap] w (PathPost (pthG D z) 0 w) := by
  have H := Lib.hid (iIsGroupWord_c 0 w.heap.size D a cap z hl w hr)
  have HB0 := Lib.hid h
  have hG := grpB_true h
  have hl12 := hG.len
  have hD : 1 ≤ D ∧ D ≤ 3 := by have := hG.d1; have := hG.d3; omega
  have HT := Lib.hid hr
  have HX := Lib.hid (six_of hG)
  have HOk := Lib.hid (pthG_ok hG)
  have HM := Lib.hid (fun k (hk : k < z.length) => mvG_take hk)
  clear hr h hG
  go_enter Try.func30, Try.ntmps30
  go_wp2_with (go_at_call 15; refine H.out.mono ?_; rw [HB0.out]; rintro e w' ⟨rfl, rfl⟩)
  go_loopw [6, 15] (fun vs vi wr => ∃ (k l c : Nat) (b : Option Addr), k ≤ z.length ∧ vi = .int .i64 k ∧ vs = .slice b l c ∧ l = k ∧ OwnM wr w.heap.size (.slice b l c) ((z.map mvG).take k) ∧ Below w.heap.size w wr) (fun _ vi _ => z.length - (intOf vi).toNat)
  case atStart => exact ⟨0, 0, 0, none, Nat.zero_le _, rfl, rfl, rfl, by simpa using OwnM.nil w w.heap.size, Below.refl _ _⟩
  case round =>
    obtain ⟨k, lv, cv, bv, hk, rfl, rfl, hlv, hO, hB⟩ := hrel
    have hzr := hB.size
    have HO := Lib.hid hO
    have HB := Lib.hid hB
    have HL := Lib.hid hlv
    have hlv12 : lv ≤ 12 := by omega
    clear hO hlv
    by_cases hlt : k < z.length
    · rcases (HT.out.below hB (Nat.le_refl _)) with h | ⟨b', o', rfl, _, hb', hI'⟩
      · rw [h] at hlt; simp at hlt
      have c1 := hI' k hlt
      have hx' := HX.out z[k] (List.getElem_mem hlt)
      have HS := Lib.hid (HM.out k hlt)
      obtain ⟨x, hx⟩ : ∃ x, z[k] = x := ⟨_, rfl⟩
      rw [hx] at c1 hx' HS
      have HXx := Lib.hid hx'
      have HLt := Lib.hid (show lv = ((z.map mvG).take k).length from by rw [HL.out, List.length_take, List.length_map]; omega)
      have e0 : (0 : Int) ≤ (k : Int) := by omega
      have e1 : (k : Int) < (z.length : Int) := by omega
      clear hx hI' hB hx'
      go_wp2_with fail
      refine (moveAlong_c x HXx.out _).mono ?_
      rintro e w1 ⟨rfl, hb1⟩
      have hz1 := hb1.size
      have HO1 := Lib.hid (HO.out.below hb1 (fun g hg => (HO.out.lt g hg).2))
      have HB1 := Lib.hid (HB.out.trans (hb1.mono hzr))
      clear hb1
      go_wp2_with (at_builtin; refine wpList_append_mvs rfl _ _ rfl w.heap.size (.slice bv lv cv) lv ((z.map mvG).take k) [mvG x] rfl HLt.out (HO1.out.alloc _) (some ⟨w1.heap.size, 0, none⟩) 1 1 rfl rfl ?_ (by omega) (by simp; omega) ?_)
      · exact .inr ⟨w1.heap.size, 0, rfl, mvs_one w1 (mvG x)⟩
      intro a9 q9 w9 hO9 hG9 _
      have HB9 := Lib.hid (HB1.out.trans (((below1 w1 _).mono (by omega)).trans (own_grownM (by exact OwnM.alloc (by exact HO1.out) _) hG9 (by simp; omega))))
      have HO9 := Lib.hid hO9
      clear hO9 hG9
      go_wp2
      go_roundw
      case rel => exact ⟨k + 1, lv + 1, q9, a9, by omega, by go_num, rfl, by rw [HL.out], by rw [HS.out]; exact HO9.out, HB9.out⟩
      case measure => simp [intOf]; omega
    · obtain rfl : k = z.length := by omega
      have hO := HO.out
      rw [List.take_of_length_le (by simp)] at hO
      obtain ⟨a', c', he, _, hN⟩ := hO.newM
      injection he with e1 e2 e3
      subst e1 e3
      have hlen : (z.map mvG).length = lv := e2.symm
      have hP := pathOf_c w.heap.size wr.heap.size D hD bv cv (z.map mvG) (by rw [hlen]; omega) wr hN.row (Nat.le_refl _) (pthG D z) (by unfold pthG stG; rw [List.map_map]; rfl) 0 (pthG D z) (by rw [HOk.out, if_pos rfl]; exact ⟨rfl, rfl⟩)
      rw [hlen] at hP
      have HP := Lib.hid hP
      clear hP hO hlen e2 hN HL
      go_wp2_with fail
      refine HP.out.mono ?_
      rintro e w2 ⟨a2, c2, rfl, hb2, hN2⟩
      have HB2 := Lib.hid (HB.out.trans (hb2.mono hzr))
      have HN2 := Lib.hid (hN2.mono hzr (Nat.le_refl _))
      clear hb2 hN2
      go_wp2
      go_ret2
      exact ⟨a2, c2, rfl, HB2.out, HN2.out⟩

set_option maxRecDepth 100000 in
set_option maxHeartbeats 4000000 in
theorem l09Path_c (h : GoodD (D : Int) z) : Calls Try.prog 51 #[.int .i64 D, .slice a z.length cap] w (RowsPost (pthG D z) w) := by
  have hl12 := h.len
  have hD : 1 ≤ D ∧ D ≤ 3 := by have := h.d1; have := h.d3; omega
  have hD3 : (D : Int) ≤ 3 := by omega
  have hD0 : (0 : Int) ≤ (D : Int) := by omega
  have HT := Lib.hid hr
  have HX := Lib.hid (fun x (hx : x ∈ z) => And.intro (six_of h x hx) (And.intro (h.lo x hx) (h.hi x hx)))
  have HM := Lib.hid (fun k (hk : k < z.length) => pthG_take (D := D) hk)
  have HSl := Lib.hid (fun x => stG_length hD.2 x)
  have HSet := Lib.hid (fun x j s hj hx => stG_set hD.2 x j s hj hx)
  obtain ⟨O, hmk, hmade⟩ := make_ints D (by omega)
  have HMk := Lib.hid hmade
  have HMK := Lib.hid hmk
  clear hr h hmade hmk
  go_enter Try.func51, Try.ntmps51
  go_wp2
  go_loopw [5, 6] (fun vs vi wr => ∃ (k l c : Nat) (b : Option Addr), k ≤ z.length ∧ vi = .int .i64 k ∧ vs = .slice b l c ∧ l = k ∧ OwnP wr w.heap.size (.slice b l c) (pthG D (z.take k)) ∧ Below w.heap.size w wr) (fun _ vi _ => z.length - (intOf vi).toNat)
  case atStart => exact ⟨0, 0, 0, _, Nat.zero_le _, rfl, rfl, rfl, by simpa [pthG] using OwnP.emptyRow (heap_alloc_new w _) (Nat.le_refl _), below1 _ _⟩
  case round =>
    obtain ⟨k, lv, cv, bv, hk, rfl, rfl, hlv, hO, hB⟩ := hrel
    have hzr := hB.size
    have HO := Lib.hid hO
    have HB := Lib.hid hB
    have HL := Lib.hid hlv
    have hlv12 : lv ≤ 12 := by omega
    clear hO hlv
    by_cases hlt : k < z.length
    · rcases (HT.out.below hB (Nat.le_refl _)) with h | ⟨b', o', rfl, _, hb', hI'⟩
      · rw [h] at hlt; simp at hlt
      have c1 := hI' k hlt
      obtain ⟨hx6, hxlo, hxhi⟩ := HX.out z[k] (List.getElem_mem hlt)
      have HS := Lib.hid (HM.out k hlt)
      obtain ⟨x, hx⟩ : ∃ x, z[k] = x := ⟨_, rfl⟩
      rw [hx] at c1 hx6 hxlo hxhi HS
      have hLt := Lib.hid (show lv = (pthG D (z.take k)).length from by rw [HL.out, pthG_length, List.length_take]; omega)
      have e0 : (0 : Int) ≤ (k : Int) := by omega
      have e1 : (k : Int) < (z.length : Int) := by omega
      have hmk := HMK.out
      have hbz : b' < wr.heap.size := by omega
      obtain ⟨hM, hI⟩ := HMk.out wr
      have hgs := hM.1
      have HM0 := Lib.hid hM
      have HI0 := Lib.hid hI
      have hsO : (wr.alloc O).heap.size = wr.heap.size + 1 := by simp
      have c1' := (Below.cell (p := ⟨b', o' + k, none⟩) (below1 wr O) hbz).trans c1
      clear hx hI' hB hM hI
      unfold Six at hx6
      rcases hx6 with rfl | rfl | rfl | rfl | rfl | rfl
      · have hjD : 2 < D := by omega
        have hjI : ((2 : Nat) : Int) < (D : Int) := by omega
        have hjI2 : (2 : Int) < (D : Int) := by omega
        have hf := (HM0.out.2 2 hjD).2
        have hc := HI0.out 2 (by rw [List.length_replicate]; exact hjD)
        rw [List.getElem_replicate, Nat.zero_add] at hc
        have HN := Lib.hid (show NewI wr.heap.size (wr.heap.size + 1) ((wr.alloc O).setCell ⟨wr.heap.size, 2, none⟩ (.int .i64 (-1))) (some ⟨wr.heap.size, 0, none⟩) (stG D (-3)) from .inr ⟨wr.heap.size, rfl, Nat.le_refl _, Nat.lt_succ_self _, by rw [HSl.out]; exact HM0.out.set _ _, by rw [← HSet.out (-3) 2 (-1) hjD (by omega)]; exact IntsIn.upd HI0.out (by rw [List.length_replicate]; exact HM0.out) (by rw [List.length_replicate]; exact hjD) _⟩)
        have HBs := Lib.hid (show Below wr.heap.size wr ((wr.alloc O).setCell ⟨wr.heap.size, 2, none⟩ (.int .i64 (-1))) from (below1 wr O).setCell (p := ⟨wr.heap.size, 2, none⟩) (Nat.le_refl _) _)
        have HSx := Lib.hid (HSl.out (-3))
        go_wp2_with (at_builtin; refine wpList_append_path2 rfl _ _ rfl w.heap.size wr ((wr.alloc O).setCell ⟨wr.heap.size, 2, none⟩ (.int .i64 (-1))) bv lv cv (pthG D (z.take k)) (stG D (-3)) (some ⟨wr.heap.size, 0, none⟩) D D (wr.heap.size + 1) rfl hLt.out HO.out HBs.out (HN.out.mono (Nat.le_refl _) (by simp)) HSx.out.symm (by simp) rfl (by omega) hzr ?_)
        intro a9 q9 w9 hO9 hb9 _
        have HO9 := Lib.hid hO9
        have HB9 := Lib.hid ((HB.out.trans (HBs.out.mono hzr)).trans hb9)
        clear hO9 hb9
        go_wp2
        go_roundw
        case rel => exact ⟨k + 1, lv + 1, q9, a9, by omega, by go_num, rfl, by rw [HL.out], by rw [HS.out]; exact HO9.out, HB9.out⟩
        case measure => simp [intOf]; omega
      · have hjD : 1 < D := by omega
        have hjI : ((1 : Nat) : Int) < (D : Int) := by omega
        have hjI2 : (1 : Int) < (D : Int) := by omega
        have hf := (HM0.out.2 1 hjD).2
        have hc := HI0.out 1 (by rw [List.length_replicate]; exact hjD)
        rw [List.getElem_replicate, Nat.zero_add] at hc
        have HN := Lib.hid (show NewI wr.heap.size (wr.heap.size + 1) ((wr.alloc O).setCell ⟨wr.heap.size, 1, none⟩ (.int .i64 (-1))) (some ⟨wr.heap.size, 0, none⟩) (stG D (-2)) from .inr ⟨wr.heap.size, rfl, Nat.le_refl _, Nat.lt_succ_self _, by rw [HSl.out]; exact HM0.out.set _ _, by rw [← HSet.out (-2) 1 (-1) hjD (by omega)]; exact IntsIn.upd HI0.out (by rw [List.length_replicate]; exact HM0.out) (by rw [List.length_replicate]; exact hjD) _⟩)
        have HBs := Lib.hid (show Below wr.heap.size wr ((wr.alloc O).setCell ⟨wr.heap.size, 1, none⟩ (.int .i64 (-1))) from (below1 wr O).setCell (p := ⟨wr.heap.size, 1, none⟩) (Nat.le_refl _) _)
        have HSx := Lib.hid (HSl.out (-2))
        go_wp2_with (at_builtin; refine wpList_append_path2 rfl _ _ rfl w.heap.size wr ((wr.alloc O).setCell ⟨wr.heap.size, 1, none⟩ (.int .i64 (-1))) bv lv cv (pthG D (z.take k)) (stG D (-2)) (some ⟨wr.heap.size, 0, none⟩) D D (wr.heap.size + 1) rfl hLt.out HO.out HBs.out (HN.out.mono (Nat.le_refl _) (by simp)) HSx.out.symm (by simp) rfl (by omega) hzr ?_)
        intro a9 q9 w9 hO9 hb9 _
        have HO9 := Lib.hid hO9
        have HB9 := Lib.hid ((HB.out.trans (HBs.out.mono hzr)).trans hb9)
        clear hO9 hb9
        go_wp2
        go_roundw
        case rel => exact ⟨k + 1, lv + 1, q9, a9, by omega, by go_num, rfl, by rw [HL.out], by rw [HS.out]; exact HO9.out, HB9.out⟩
        case measure => simp [intOf]; omega
      · have hjD : 0 < D := by omega
        have hjI : ((0 : Nat) : Int) < (D : Int) := by omega
        have hjI2 : (0 : Int) < (D : Int) := by omega
        have hf := (HM0.out.2 0 hjD).2
        have hc := HI0.out 0 (by rw [List.length_replicate]; exact hjD)
        rw [List.getElem_replicate, Nat.zero_add] at hc
        have HN := Lib.hid (show NewI wr.heap.size (wr.heap.size + 1) ((wr.alloc O).setCell ⟨wr.heap.size, 0, none⟩ (.int .i64 (-1))) (some ⟨wr.heap.size, 0, none⟩) (stG D (-1)) from .inr ⟨wr.heap.size, rfl, Nat.le_refl _, Nat.lt_succ_self _, by rw [HSl.out]; exact HM0.out.set _ _, by rw [← HSet.out (-1) 0 (-1) hjD (by omega)]; exact IntsIn.upd HI0.out (by rw [List.length_replicate]; exact HM0.out) (by rw [List.length_replicate]; exact hjD) _⟩)
        have HBs := Lib.hid (show Below wr.heap.size wr ((wr.alloc O).setCell ⟨wr.heap.size, 0, none⟩ (.int .i64 (-1))) from (below1 wr O).setCell (p := ⟨wr.heap.size, 0, none⟩) (Nat.le_refl _) _)
        have HSx := Lib.hid (HSl.out (-1))
        go_wp2_with (at_builtin; refine wpList_append_path2 rfl _ _ rfl w.heap.size wr ((wr.alloc O).setCell ⟨wr.heap.size, 0, none⟩ (.int .i64 (-1))) bv lv cv (pthG D (z.take k)) (stG D (-1)) (some ⟨wr.heap.size, 0, none⟩) D D (wr.heap.size + 1) rfl hLt.out HO.out HBs.out (HN.out.mono (Nat.le_refl _) (by simp)) HSx.out.symm (by simp) rfl (by omega) hzr ?_)
        intro a9 q9 w9 hO9 hb9 _
        have HO9 := Lib.hid hO9
        have HB9 := Lib.hid ((HB.out.trans (HBs.out.mono hzr)).trans hb9)
        clear hO9 hb9
        go_wp2
        go_roundw
        case rel => exact ⟨k + 1, lv + 1, q9, a9, by omega, by go_num, rfl, by rw [HL.out], by rw [HS.out]; exact HO9.out, HB9.out⟩
        case measure => simp [intOf]; omega
      · have hjD : 0 < D := by omega
        have hjI : ((0 : Nat) : Int) < (D : Int) := by omega
        have hjI2 : (0 : Int) < (D : Int) := by omega
        have hf := (HM0.out.2 0 hjD).2
        have hc := HI0.out 0 (by rw [List.length_replicate]; exact hjD)
        rw [List.getElem_replicate, Nat.zero_add] at hc
        have HN := Lib.hid (show NewI wr.heap.size (wr.heap.size + 1) ((wr.alloc O).setCell ⟨wr.heap.size, 0, none⟩ (.int .i64 (1))) (some ⟨wr.heap.size, 0, none⟩) (stG D (1)) from .inr ⟨wr.heap.size, rfl, Nat.le_refl _, Nat.lt_succ_self _, by rw [HSl.out]; exact HM0.out.set _ _, by rw [← HSet.out (1) 0 (1) hjD (by omega)]; exact IntsIn.upd HI0.out (by rw [List.length_replicate]; exact HM0.out) (by rw [List.length_replicate]; exact hjD) _⟩)
        have HBs := Lib.hid (show Below wr.heap.size wr ((wr.alloc O).setCell ⟨wr.heap.size, 0, none⟩ (.int .i64 (1))) from (below1 wr O).setCell (p := ⟨wr.heap.size, 0, none⟩) (Nat.le_refl _) _)
        have HSx := Lib.hid (HSl.out (1))
        go_wp2_with (at_builtin; refine wpList_append_path2 rfl _ _ rfl w.heap.size wr ((wr.alloc O).setCell ⟨wr.heap.size, 0, none⟩ (.int .i64 (1))) bv lv cv (pthG D (z.take k)) (stG D (1)) (some ⟨wr.heap.size, 0, none⟩) D D (wr.heap.size + 1) rfl hLt.out HO.out HBs.out (HN.out.mono (Nat.le_refl _) (by simp)) HSx.out.symm (by simp) rfl (by omega) hzr ?_)
        intro a9 q9 w9 hO9 hb9 _
        have HO9 := Lib.hid hO9
        have HB9 := Lib.hid ((HB.out.trans (HBs.out.mono hzr)).trans hb9)
        clear hO9 hb9
        go_wp2
        go_roundw
        case rel => exact ⟨k + 1, lv + 1, q9, a9, by omega, by go_num, rfl, by rw [HL.out], by rw [HS.out]; exact HO9.out, HB9.out⟩
        case measure => simp [intOf]; omega
      · have hjD : 1 < D := by omega
        have hjI : ((1 : Nat) : Int) < (D : Int) := by omega
        have hjI2 : (1 : Int) < (D : Int) := by omega
        have hf := (HM0.out.2 1 hjD).2
        have hc := HI0.out 1 (by rw [List.length_replicate]; exact hjD)
        rw [List.getElem_replicate, Nat.zero_add] at hc
        have HN := Lib.hid (show NewI wr.heap.size (wr.heap.size + 1) ((wr.alloc O).setCell ⟨wr.heap.size, 1, none⟩ (.int .i64 (1))) (some ⟨wr.heap.size, 0, none⟩) (stG D (2)) from .inr ⟨wr.heap.size, rfl, Nat.le_refl _, Nat.lt_succ_self _, by rw [HSl.out]; exact HM0.out.set _ _, by rw [← HSet.out (2) 1 (1) hjD (by omega)]; exact IntsIn.upd HI0.out (by rw [List.length_replicate]; exact HM0.out) (by rw [List.length_replicate]; exact hjD) _⟩)
        have HBs := Lib.hid (show Below wr.heap.size wr ((wr.alloc O).setCell ⟨wr.heap.size, 1, none⟩ (.int .i64 (1))) from (below1 wr O).setCell (p := ⟨wr.heap.size, 1, none⟩) (Nat.le_refl _) _)
        have HSx := Lib.hid (HSl.out (2))
        go_wp2_with (at_builtin; refine wpList_append_path2 rfl _ _ rfl w.heap.size wr ((wr.alloc O).setCell ⟨wr.heap.size, 1, none⟩ (.int .i64 (1))) bv lv cv (pthG D (z.take k)) (stG D (2)) (some ⟨wr.heap.size, 0, none⟩) D D (wr.heap.size + 1) rfl hLt.out HO.out HBs.out (HN.out.mono (Nat.le_refl _) (by simp)) HSx.out.symm (by simp) rfl (by omega) hzr ?_)
        intro a9 q9 w9 hO9 hb9 _
        have HO9 := Lib.hid hO9
        have HB9 := Lib.hid ((HB.out.trans (HBs.out.mono hzr)).trans hb9)
        clear hO9 hb9
        go_wp2
        go_roundw
        case rel => exact ⟨k + 1, lv + 1, q9, a9, by omega, by go_num, rfl, by rw [HL.out], by rw [HS.out]; exact HO9.out, HB9.out⟩
        case measure => simp [intOf]; omega
      · have hjD : 2 < D := by omega
        have hjI : ((2 : Nat) : Int) < (D : Int) := by omega
        have hjI2 : (2 : Int) < (D : Int) := by omega
        have hf := (HM0.out.2 2 hjD).2
        have hc := HI0.out 2 (by rw [List.length_replicate]; exact hjD)
        rw [List.getElem_replicate, Nat.zero_add] at hc
        have HN := Lib.hid (show NewI wr.heap.size (wr.heap.size + 1) ((wr.alloc O).setCell ⟨wr.heap.size, 2, none⟩ (.int .i64 (1))) (some ⟨wr.heap.size, 0, none⟩) (stG D (3)) from .inr ⟨wr.heap.size, rfl, Nat.le_refl _, Nat.lt_succ_self _, by rw [HSl.out]; exact HM0.out.set _ _, by rw [← HSet.out (3) 2 (1) hjD (by omega)]; exact IntsIn.upd HI0.out (by rw [List.length_replicate]; exact HM0.out) (by rw [List.length_replicate]; exact hjD) _⟩)
        have HBs := Lib.hid (show Below wr.heap.size wr ((wr.alloc O).setCell ⟨wr.heap.size, 2, none⟩ (.int .i64 (1))) from (below1 wr O).setCell (p := ⟨wr.heap.size, 2, none⟩) (Nat.le_refl _) _)
        have HSx := Lib.hid (HSl.out (3))
        go_wp2_with (at_builtin; refine wpList_append_path2 rfl _ _ rfl w.heap.size wr ((wr.alloc O).setCell ⟨wr.heap.size, 2, none⟩ (.int .i64 (1))) bv lv cv (pthG D (z.take k)) (stG D (3)) (some ⟨wr.heap.size, 0, none⟩) D D (wr.heap.size + 1) rfl hLt.out HO.out HBs.out (HN.out.mono (Nat.le_refl _) (by simp)) HSx.out.symm (by simp) rfl (by omega) hzr ?_)
        intro a9 q9 w9 hO9 hb9 _
        have HO9 := Lib.hid hO9
        have HB9 := Lib.hid ((HB.out.trans (HBs.out.mono hzr)).trans hb9)
        clear hO9 hb9
        go_wp2
        go_roundw
        case rel => exact ⟨k + 1, lv + 1, q9, a9, by omega, by go_num, rfl, by rw [HL.out], by rw [HS.out]; exact HO9.out, HB9.out⟩
        case measure => simp [intOf]; omega
    · obtain rfl : k = z.length := by omega
      have hO := HO.out
      rw [List.take_length] at hO
      have HLq := Lib.hid hO.at_.1
      have HOw := Lib.hid hO.at_.2
      clear hO
      go_wp2
      go_ret
      exact ⟨bv, cv, by first | (rw [HLq.out]; done) | (rw [HLq.out]; rfl), hB, HOw.out⟩
theorem sPathOfWord_2 (h : grpB (D : Int) z = true) : Calls Try.prog 29 #[.int .i64 D, .slice a z.length cap] w (PathPost (pthG D z) 0 w) := by
  have H := Lib.hid (l09Is_c 0 w.heap.size D a cap z hl w hr)
  have HC := Lib.hid (l09Path_c D a cap z hl w hr (grpB_true h))
  have HB := Lib.hid h
  clear hr h
  go_enter Try.func29, Try.ntmps29
  go_wp2_with (go_at_call 40; refine H.out.mono ?_; rw [HB.out]; rintro e w' ⟨rfl, rfl⟩)
  refine HC.out.mono ?_
  rintro e w1 ⟨a1, c1, rfl, hb1, hN1⟩
  go_wp2
  go_ret2
  exact ⟨a1, c1, rfl, hb1, hN1⟩
end
section
variable (d : Int) (a : Option Addr) (cap : Nat) (z : List Int) (hl : z.length ≤ 1048576) (w : World) (hr : IRow 0 w.heap.size w a z)
include hl hr
theorem sPathOfWord_1 (h : grpB d z = false) : Calls Try.prog 29 #[.int .i64 d, .slice a z.length cap] w (PathPost [] 2 w) := by
  have H := Lib.hid (l09Is_c 0 w.heap.size d a cap z hl w hr)
  have HB := Lib.hid h
  clear hr h
  go_enter Try.func29, Try.ntmps29
  go_wp2_with (go_at_call 40; refine H.out.mono ?_; rw [HB.out]; rintro e w' ⟨rfl, rfl⟩)
  go_ret2
  exact ⟨none, 0, rfl, Below.refl _ _, .inl rfl⟩
theorem iPathOfWord_1 (h : grpB d z = false) : Calls Try.prog 30 #[.int .i64 d, .slice a z.length cap] w (PathPost [] 2 w) := by
  have H := Lib.hid (iIsGroupWord_c 0 w.heap.size d a cap z hl w hr)
  have HB := Lib.hid h
  clear hr h
  go_enter Try.func30, Try.ntmps30
  go_wp2_with (go_at_call 15; refine H.out.mono ?_; rw [HB.out]; rintro e w' ⟨rfl, rfl⟩)
  go_ret2
  exact ⟨none, 0, rfl, Below.refl _ _, .inl rfl⟩
end
end Go.Proofs.Ytnhiceopgjfaaaa
