/-
  The program's list of the Lyndon words of a space, in order, with what makes the values of their brackets.
  The closure of the program's SeriesOfCoordinates: the sum of the brackets of the coordinates, over all Lyndon words.
-/
import Derived.Test.YtgcjpenlcokgjaaGreatDoorBvI
import Derived.Test.YtgcjpenlcokgjaaGreatDoorCrdM
import Derived.Test.YtgcjpenlcokgjaaGreatDoorGivM
import Derived.Test.YtgcjpenlcokgjaaGreatDoorSerU
import Derived.Test.YtgcjpenlcokgjaaGreatDoorDynI
import Derived.RangeFuncBox
import Derived.RangeFuncNested
import Derived.RangeFuncCalls
import Derived.RangeFuncLeaves
import Derived.RangeFuncFrom
import Derived.Shelf.Abstract
import Derived.WalkKit
import Derived.OwnWalkIn
import Derived.TacticsInMore
import Derived.LoopNIn
import Derived.LoopIn
import Derived.Laws.EntriesVeiled
namespace Go.Proofs.YtgcjpenlcokgjaaGreatDoor
open Go.RowKit Go.Shelf

attribute [local go_sem] Oper.semAt_some

theorem keeps_below' {W W' : World} (h : Below W.heap.size W W') : KeepsOthers W W' := ⟨h.size, fun _ _ hk _ => (h.block _ (Array.getElem?_eq_some_iff.1 hk).1).trans hk⟩
theorem below_growth {W W' : World} (h : Below W.heap.size W W') : W.grownBy W' none := ⟨h.os, h.tape, h.output, h.size, fun k hk _ => h.block k hk⟩
theorem own_below {W W' : World} {base : Nat} {e : TypeId} {size : Nat} {v : Value} {n : Nat} {xs : List Value} (h : W.ownsRow base e size v n xs) (hb : Below W.heap.size W W') : W'.ownsRow base e size v n xs := by
  refine h.kept (below_growth hb) ?_
  rcases h.2 with ⟨rfl, _⟩ | ⟨g, cap, cur, rfl, _⟩
  · exact .inl rfl
  · exact .inr (by simp [Value.ownBlock])
/-- the bracket lies in memory, in blocks of its own type -/
def InY (w : World) : Brk → Nat → Prop
  | .leaf s, p => w.heap[p]? = some (.cells #[.string s, .pointer none, .pointer none] 145 (0, 0))
  | .node l r, p => ∃ (x : Value) (bl br : Nat), w.heap[p]? = some (.cells #[x, .pointer (some ⟨bl, 0, none⟩), .pointer (some ⟨br, 0, none⟩)] 145 (0, 0)) ∧ InY w l bl ∧ InY w r br
theorem InY.toT {w : World} : ∀ {b : Brk} {p : Nat}, InY w b p → InT w b p
  | .leaf s, p, h => ⟨by simp [World.cell?, show w.heap[p]? = _ from h], by simp [World.cell?, show w.heap[p]? = _ from h]⟩
  | .node l r, p, h => by
    obtain ⟨x, bl, br, h1, h2, h3⟩ := h
    exact ⟨bl, br, by simp [World.cell?, h1], by simp [World.cell?, h1], InY.toT h2, InY.toT h3⟩
theorem InY.keep {w w' : World} (hk : ∀ (p : Nat) (cur : Array Value), w.heap[p]? = some (.cells cur 145 (0, 0)) → w'.heap[p]? = w.heap[p]?) : ∀ {b : Brk} {p : Nat}, InY w b p → InY w' b p
  | .leaf s, p, h => (hk _ _ h).trans h
  | .node l r, p, h => by
    obtain ⟨x, bl, br, h1, h2, h3⟩ := h
    exact ⟨x, bl, br, (hk _ _ h1).trans h1, InY.keep hk h2, InY.keep hk h3⟩
theorem InY.below {w w' : World} (hb : Below w.heap.size w w') {b : Brk} {p : Nat} (h : InY w b p) : InY w' b p :=
  h.keep fun q _ hq => hb.block q (Array.getElem?_eq_some_iff.1 hq).1
/-- what grows at one block that is none of a bracket's leaves the bracket -/
theorem InY.grown {w w' : World} {row : Option Nat} (hg : w.grownBy w' row) (hr : ∀ q cur, w.heap[q]? = some (.cells cur 145 (0, 0)) → some q ≠ row) {b : Brk} {p : Nat} (h : InY w b p) : InY w' b p :=
  h.keep fun q cur hq => hg.block q (Array.getElem?_eq_some_iff.1 hq).1 (hr q cur hq)
set_option maxRecDepth 100000 in
set_option maxHeartbeats 4000000 in
theorem bracketOfY_c : ∀ {s : ByteArray} {b : Brk}, BrkOf s b → s.size ≤ 1000 → ∀ w : World,
    Calls Tryz.prog 76 #[.string s, .func (.func 77) #[] #[]] w fun e w' => (∃ p : Nat, e = .returned (.pointer (some ⟨p, 0, none⟩)) ∧ InY w' b p) ∧ Below w.heap.size w w' := by
  intro s b hb
  induction hb with
  | one s h =>
    intro hs w
    have h' : (s.size : Int) = 1 := by omega
    go_enter Tryz.func76, Tryz.ntmps76
    go_wp2_with fail
    refine (copied_c s (by omega) _).mono ?_
    rintro e w1 ⟨rfl, hb1⟩
    go_wp2
    go_ret
    exact ⟨⟨w1.heap.size, rfl, World.alloc_heap_new w1 _⟩, hb1.trans ((below1 _ _).mono hb1.size)⟩
  | two s i l r h2 hi hl hr ihl ihr =>
    intro hs w
    have HI := Lib.hid hi
    have hi1 := hi.1
    have hi2 := hi.2.1
    have h' : ¬ (s.size : Int) = 1 := by omega
    have HLc := Lib.hid (ihl (by rw [ByteArray.size_extract]; omega))
    have HRc := Lib.hid (ihr (by rw [ByteArray.size_extract]; omega))
    clear ihl ihr hl hr hi
    go_enter Tryz.func76, Tryz.ntmps76
    go_wp2_with fail
    refine (aheadOf_c s i HI.out (by omega) _).mono ?_
    rintro e w1 ⟨rfl, hb1⟩
    go_wp2_with fail
    refine (HLc.out _).mono ?_
    rintro e w2 ⟨⟨pl, rfl, hTl⟩, hb2⟩
    have HTl := Lib.hid hTl
    have HB2 := Lib.hid (below_next hb1 hb2)
    clear hTl hb1 hb2
    go_wp2_with fail
    refine (HRc.out _).mono ?_
    rintro e w3 ⟨⟨pr, rfl, hTr⟩, hb3⟩
    have HTl3 := Lib.hid (HTl.out.below hb3)
    have HTr := Lib.hid hTr
    have HB3 := Lib.hid (below_next HB2.out hb3)
    clear hTr hb3
    go_wp2
    go_ret
    exact ⟨⟨w3.heap.size, rfl, _, pl, pr, World.alloc_heap_new w3 _, HTl3.out.below (below1 _ _), HTr.out.below (below1 _ _)⟩, below_next HB3.out (below1 _ _)⟩

/-- a Lyndon word of a list -/
abbrev Lw (ws : List ByteArray) : Type := { s : ByteArray // s ∈ ws ∧ lynB s = true }
/-- those of the first words -/
def lwk (ws : List ByteArray) (k : Nat) : List (Lw ws) := (ws.take k).filterMap fun s => if h : inL s ws = true ∧ lynB s = true then some ⟨s, inL_iff.1 h.1, h.2⟩ else none
theorem lwk_yes {ws : List ByteArray} {k : Nat} (hk : k < ws.length) (h : ws[k] ∈ ws ∧ lynB ws[k] = true) : lwk ws (k + 1) = lwk ws k ++ [⟨ws[k], h⟩] := by
  unfold lwk
  rw [List.take_succ_eq_append_getElem hk, List.filterMap_append]
  congr 1
  simp [h.2, inL_iff.2 h.1]
theorem lwk_no {ws : List ByteArray} {k : Nat} (hk : k < ws.length) (h : lynB ws[k] = false) : lwk ws (k + 1) = lwk ws k := by
  unfold lwk
  rw [List.take_succ_eq_append_getElem hk, List.filterMap_append]
  simp [h]
theorem lwk_len (ws : List ByteArray) (k : Nat) : (lwk ws k).length ≤ k := by
  unfold lwk
  exact Nat.le_trans (List.length_filterMap_le ..) (by rw [List.length_take]; omega)
theorem lwk_val (ws : List ByteArray) : (lwk ws ws.length).map (·.1) = ws.filter lynB := by
  unfold lwk
  rw [List.take_length]
  have h : ∀ us : List ByteArray, (∀ s ∈ us, s ∈ ws) → ((us.filterMap fun s => if h : inL s ws = true ∧ lynB s = true then some (⟨s, inL_iff.1 h.1, h.2⟩ : Lw ws) else none).map (·.1)) = us.filter lynB := by
    intro us
    induction us with
    | nil => intro _; rfl
    | cons s us ih =>
      intro hm
      have ih' := ih (fun t ht => hm t (by simp [ht]))
      cases hy : lynB s with
      | true =>
        rw [List.filterMap_cons, dif_pos ⟨inL_iff.2 (hm s (by simp)), hy⟩, List.filter_cons_of_pos hy, List.map_cons, ih']
      | false =>
        rw [List.filterMap_cons, dif_neg (fun h => by rw [hy] at h; exact Bool.false_ne_true h.2), List.filter_cons_of_neg (by rw [hy]; exact Bool.false_ne_true), ih']
  exact h ws (fun _ h => h)
def encL {ws : List ByteArray} (x : Lw ws) : Array Value := #[.string x.1]

set_option maxRecDepth 100000 in
set_option maxHeartbeats 4000000 in
theorem lyndon1_in (l Bs n₀ b off cap : Nat) (L V : Value) (ws : List ByteArray) (hl : ws.length ≤ 100000) (hs : ∀ s ∈ ws, s.size ≤ 1000) (hb : b < n₀) (J Jx : List (Lw ws) → World → Prop)
    (hY : ∀ pre x W, J pre W → pre.length < ws.length → YieldAt Fence.wide (8 - 1) Tryz.prog l (encL x) W fun e W' =>
      (e = .returned (.bool true) ∧ J (pre ++ [x]) W' ∧ Below n₀ W W') ∨ (e = .returned (.bool false) ∧ Jx (pre ++ [x]) W'))
    (W : World) (hBs : W.cell? ⟨Bs, 0, none⟩ = some L ∧ W.cell? ⟨Bs, 1, none⟩ = some V ∧ W.cell? ⟨Bs, 2, none⟩ = some (.slice (some ⟨b, off, none⟩) ws.length cap)) (hc : StrsIn W b off ws) (h0 : J [] W) :
    CallsIn Fence.wide 8 Tryz.prog 115 #[.func (.yield l) #[] #[], .pointer (some ⟨Bs, 0, none⟩)] W fun e W' => (∃ v, e = .returned v) ∧
      (J (lwk ws ws.length) W' ∨ (∃ pre, Jx pre W')) := by
  have HC := Lib.hid hc
  have HS := Lib.hid hs
  obtain ⟨q0, q1, q2⟩ := hBs
  clear hc hs
  refine callsIn_of_wp Tryz.func115 rfl trivial ?_ rfl
  simp only [Tryz.ntmps115, List.size_toArray, List.length_cons, List.length_nil, Nat.reduceAdd, Nat.reduceSub, Array.replicate_succ, Array.replicate_zero, List.push_toArray, List.append_toArray, List.nil_append, List.cons_append]
  gi_wp2
  gi_loopw [8] (fun i wr => ∃ k : Nat, k ≤ ws.length ∧ i = .int .i64 (k : Int) ∧ J (lwk ws k) wr ∧ Below n₀ W wr)
    (fun i _ => ((ws.length : Int) - intOf i).toNat)
  case atStart => exact ⟨0, Nat.zero_le _, rfl, h0, Below.refl _ _⟩
  case round =>
    obtain ⟨k, hk, rfl, hJs, hnx⟩ := hrel
    by_cases hlt : k < ws.length
    · have hc1 := (HC.out.below hnx hb) k hlt
      have hmem : ws[k] ∈ ws := List.getElem_mem hlt
      have hsz := HS.out _ hmem
      have e0 : (0 : Int) ≤ (k : Int) := by omega
      have e1 : (k : Int) < (ws.length : Int) := by omega
      have e2 : (k : Int) + 1 ≤ (ws.length : Int) := by omega
      have k1 : IntKind.i64.wrap ((k : Int) + 1) = (k : Int) + 1 := IntWalk.i64_in _ (by omega)
      have HLy := Lib.hid (fun W => isLyndon_c ws[k] (by unfold maxLen; omega) W)
      have HYes := Lib.hid (fun h => lwk_yes (ws := ws) hlt h)
      have HNo := Lib.hid (fun h => lwk_no (ws := ws) hlt h)
      have HLn := Lib.hid (show (lwk ws k).length < ws.length from Nat.lt_of_le_of_lt (lwk_len ws k) hlt)
      cases hy : lynB ws[k] with
      | true =>
        obtain ⟨fn, tmps, assign, body, hyl, hR⟩ := hY _ ⟨ws[k], hmem, hy⟩ wr hJs HLn.out
        have HEq := Lib.hid (HYes.out ⟨hmem, hy⟩)
        rw [hy] at HLy
        dsimp only [encL] at hyl
        obtain ⟨s, hs⟩ : ∃ s, ws[k] = s := ⟨_, rfl⟩
        rw [hs] at hc1 HLy hyl
        clear hs hY HYes HNo
        gi_wp2_with (first | (refine ⟨trivial, ?_⟩; gi_at_call 70; refine (callsIn_wide.2 (HLy.out _)).mono ?_; rintro e w' ⟨rfl, rfl⟩) | fail)
        refine hR.mono ?_
        rintro e W3 (⟨rfl, hJ3, hk3⟩ | ⟨rfl, hJx3⟩)
        · gi_wp2
          go_roundw
          case rel => exact ⟨k + 1, by omega, by go_num, by rw [HEq.out]; exact hJ3, hnx.trans hk3⟩
          case measure => simp [intOf]; omega
        · gi_wp2
          refine bodyPost_ret (results_none rfl _ _ _) rfl ?_
          exact ⟨⟨_, rfl⟩, .inr ⟨_, hJx3⟩⟩
      | false =>
        have HEq := Lib.hid (HNo.out hy)
        rw [hy] at HLy
        obtain ⟨s, hs⟩ : ∃ s, ws[k] = s := ⟨_, rfl⟩
        rw [hs] at hc1 HLy
        clear hs hY hy HYes HNo
        gi_wp2_with (first | (refine ⟨trivial, ?_⟩; gi_at_call 70; refine (callsIn_wide.2 (HLy.out _)).mono ?_; rintro e w' ⟨rfl, rfl⟩) | fail)
        refine ⟨fun f h => (by cases h), ?_⟩
        gi_wp2
        go_roundw
        case rel => exact ⟨k + 1, by omega, by go_num, by rw [HEq.out]; exact hJs, hnx⟩
        case measure => simp [intOf]; omega
    · obtain rfl : k = ws.length := by omega
      gi_wp2
      go_end0
      exact ⟨⟨_, rfl⟩, .inl hJs⟩

theorem lyndon_stops (Bs n₀ b off cap : Nat) (L V : Value) (ws : List ByteArray) (hl : ws.length ≤ 100000) (hs : ∀ s ∈ ws, s.size ≤ 1000) (hb : b < n₀) (w : World) (hBs : Bs < w.heap.size) (hn₀ : n₀ ≤ w.heap.size)
    (h0 : w.cell? ⟨Bs, 0, none⟩ = some L) (h1 : w.cell? ⟨Bs, 1, none⟩ = some V) (h2 : w.cell? ⟨Bs, 2, none⟩ = some (.slice (some ⟨b, off, none⟩) ws.length cap)) (hI : StrsIn w b off ws) :
    SeqStopsK Fence.wide 8 Tryz.prog 115 #[.pointer (some ⟨Bs, 0, none⟩)] (encL (ws := ws)) (Below n₀) (fun ys => ys = lwk ws ws.length) (fun _ => True) ws.length w := fun l J Jx W hW _ _ hY hj => by
  refine (lyndon1_in l Bs n₀ b off cap L V ws hl hs hb J Jx hY W ⟨(hW.cell (p := ⟨Bs, 0, none⟩) hBs).trans h0, (hW.cell (p := ⟨Bs, 1, none⟩) hBs).trans h1, (hW.cell (p := ⟨Bs, 2, none⟩) hBs).trans h2⟩ (hI.below hW (by omega)) hj).mono ?_
  rintro e W' ⟨he, h | ⟨pre, h⟩⟩
  · exact ⟨he, .inl ⟨_, rfl, h⟩⟩
  · exact ⟨he, .inr ⟨_, trivial, h⟩⟩

set_option maxHeartbeats 1000000 in
theorem lyndonWords_c (L V : Int) (a : Option Addr) (n cap : Nat) (w : World) :
    Calls Tryz.prog 75 #[.agg #[.int .i64 L, .int .i64 V, .slice a n cap]] w fun e w' => e = .returned (.func (.func 115) #[] #[.pointer (some ⟨w.heap.size, 0, none⟩)]) ∧ w' = w.alloc (.cells #[.int .i64 L, .int .i64 V, .slice a n cap] 64) := by
  have hmf : ∀ (fn : Fn) (first cap : Array Value) (w : World), (Instr.makeFunc fn first cap).run Tryz.prog w = .ok (.func fn first cap) w := fun _ _ _ _ => rfl
  go_enter Tryz.func75, Tryz.ntmps75
  go_wp2
  go_ret
  exact ⟨rfl, rfl⟩

/-- the function that makes a bracket's values, bound to the bracket -/
def vB (p : Nat) : Value := .func (.func 78) #[.pointer (some ⟨p, 0, none⟩)] #[]
def cellsLb (es : List (ByteArray × Nat)) : List Value := es.flatMap fun e => [.string e.1, vB e.2]
theorem cellsLb_len (es : List (ByteArray × Nat)) : (cellsLb es).length = es.length * 2 := by
  induction es with
  | nil => rfl
  | cons e es ih => rw [cellsLb, List.flatMap_cons, List.length_append]; unfold cellsLb at ih; rw [ih, List.length_cons]; simp; omega
theorem cellsLb_snoc (es : List (ByteArray × Nat)) (s : ByteArray) (p : Nat) : cellsLb (es ++ [(s, p)]) = cellsLb es ++ [.string s, vB p] := by
  unfold cellsLb
  rw [List.flatMap_append]
  rfl
theorem cellsLb_get : ∀ (es : List (ByteArray × Nat)) (k : Nat) (h : k < es.length), (cellsLb es)[k * 2]? = some (.string es[k].1) ∧ (cellsLb es)[k * 2 + 1]? = some (vB es[k].2)
  | [], k, h => by simp at h
  | e :: es, 0, _ => by simp [cellsLb]
  | e :: es, k + 1, h => by
    have ih := cellsLb_get es k (by simpa using h)
    have e1 : cellsLb (e :: es) = .string e.1 :: vB e.2 :: cellsLb es := rfl
    rw [e1, show (k + 1) * 2 = k * 2 + 1 + 1 by omega, List.getElem?_cons_succ, List.getElem?_cons_succ, List.getElem?_cons_succ, List.getElem?_cons_succ]
    simpa using ih
/-- the list that the value holds: words, and what makes their brackets' values -/
def LbOk (lo : Nat) (ls : List ByteArray) (v : Value) (W : World) : Prop := ∃ es : List (ByteArray × Nat), es.map (·.1) = ls ∧ (∀ e ∈ es, ∃ b, BrkOf e.1 b ∧ InY W b e.2) ∧ W.ownsRow lo 74 2 v es.length (cellsLb es)
theorem info_lie : (Tryz.prog.info? 74).map (fun i => (i.zero, i.size, i.bytes)) = some (some (.agg #[.string ByteArray.empty, .nilFunc]), 2, 24) := by kernel_rfl

set_option maxRecDepth 100000 in
set_option maxHeartbeats 8000000 in
theorem lieBrackets_c (L V : Int) (b off cap : Nat) (ws : List ByteArray) (hl : ws.length ≤ 100000) (hs : ∀ s ∈ ws, s.size ≤ 1000) (w : World) (hb : b < w.heap.size) (hI : StrsIn w b off ws) :
    Calls Tryz.prog 41 #[.agg #[.int .i64 L, .int .i64 V, .slice (some ⟨b, off, none⟩) ws.length cap]] w fun e w' => ∃ v, e = .returned v ∧ Below w.heap.size w w' ∧ LbOk w.heap.size (ws.filter lynB) v w' := by
  obtain ⟨i0, hi0, hi1, hi2, hi3⟩ := info_parts info_lie
  have hmf : ∀ (fn : Fn) (first cap : Array Value) (w : World), (Instr.makeFunc fn first cap).run Tryz.prog w = .ok (.func fn first cap) w := fun _ _ _ _ => rfl
  have HI := Lib.hid hI
  have HS := Lib.hid hs
  clear hI hs
  refine (callsIn_wide (n := 9)).1 ?_
  refine callsIn_of_wp_marks Tryz.func41 rfl trivial ?_ rfl
  simp only [Tryz.ntmps41, List.size_toArray, List.length_cons, List.length_nil, Nat.reduceAdd, Nat.reduceSub, Array.replicate_succ, Array.replicate_zero, List.push_toArray, List.append_toArray, List.nil_append, List.cons_append]
  gi_wp2_with (first | (refine ⟨trivial, ?_⟩; gi_at_call 75; refine (callsIn_wide.2 (lyndonWords_c _ _ _ _ _ _)).mono ?_; rintro e w' ⟨rfl, rfl⟩) | fail)
  obtain ⟨w8, hw8⟩ : ∃ w8 : World, ((w.alloc (.cells #[.int .i64 L, .int .i64 V, .slice (some ⟨b, off, none⟩) ws.length cap] 64)).alloc (.cells #[.slice none 0 0] 70)).alloc (.cells #[.int .i64 L, .int .i64 V, .slice (some ⟨b, off, none⟩) ws.length cap] 64) = w8 := ⟨_, rfl⟩
  have hsz : w8.heap.size = w.heap.size + 1 + 1 + 1 := by subst hw8; simp
  have hbx : Boxed w8 (w.heap.size + 1) 70 (.slice none 0 0) := by
    subst hw8
    have h := (Boxed.new (w.alloc (.cells #[.int .i64 L, .int .i64 V, .slice (some ⟨b, off, none⟩) ws.length cap] 64)) 70 (.slice none 0 0)).alloc (.cells #[.int .i64 L, .int .i64 V, .slice (some ⟨b, off, none⟩) ws.length cap] 64)
    rwa [World.size_alloc] at h
  have HB8 : Below w.heap.size w w8 := by subst hw8; exact below3 _ _ _ _
  have g0 : w8.cell? ⟨w.heap.size + 1 + 1, 0, none⟩ = some (.int .i64 L) := by subst hw8; go_simp
  have g1 : w8.cell? ⟨w.heap.size + 1 + 1, 1, none⟩ = some (.int .i64 V) := by subst hw8; go_simp
  have g2 : w8.cell? ⟨w.heap.size + 1 + 1, 2, none⟩ = some (.slice (some ⟨b, off, none⟩) ws.length cap) := by subst hw8; go_simp
  rw [hw8]
  clear hw8
  refine wpIn_rangeFunc_ownF rfl (by omega) (gf := 115) (lb := #[.pointer (some ⟨w.heap.size + 1 + 1, 0, none⟩)]) rfl trivial (enters_of Tryz.func115 (by kernel_rfl) rfl)
    (lyndon_stops (w.heap.size + 1 + 1) w.heap.size b off cap _ _ ws hl HS.out hb w8 (by omega) (by omega) g0 g1 g2 (HI.out.below HB8 hb)) (fun h k => h.trans k) (fun W l o o' hl h ho hk => belowK_b (w := w8) (by omega) W l o o' hl h ho hk) (Below.refl _ _) (fun _ => rfl)
    (fun pre W => (∃ (v : Value) (es : List (ByteArray × Nat)), Boxed W (w.heap.size + 1) 70 v ∧ es.map (·.1) = pre.map (·.1) ∧ (∀ e ∈ es, ∃ b, BrkOf e.1 b ∧ InY W b e.2) ∧ W.ownsRow w.heap.size 74 2 v es.length (cellsLb es)) ∧ Below w.heap.size w W)
    (fun _ _ _ => False)
    (OwnFrom.and (Own.from (fun s A B row hs hg hr => by
      obtain ⟨v, es, h1, h2, h3, h4⟩ := hs
      refine ⟨v, es, h1.kept hg (fun e' => ?_), h2, fun e he => ?_, h4.kept hg ?_⟩
      · obtain ⟨o, ho, hc⟩ := hr _ e'.symm
        rw [show A.heap[w.heap.size + 1]? = _ from h1] at ho; cases ho; cases hc
      · obtain ⟨b, hb1, hb2⟩ := h3 e he
        refine ⟨b, hb1, hb2.grown hg (fun q cur hq e' => ?_)⟩
        obtain ⟨o, ho, hc⟩ := hr _ e'.symm
        rw [hq] at ho; cases ho; cases hc
      · rcases h4.2 with ⟨rfl, _⟩ | ⟨g, cap, cur, rfl, _, hgb, _⟩
        · exact .inl rfl
        · refine .inr fun e' => ?_
          obtain ⟨o, ho, hc⟩ := hr g (by simpa [Value.ownBlock] using e'.symm)
          rw [hgb] at ho; cases ho; cases hc) _) (ownFrom_below (Nat.le_refl _) (by omega)))
    (fun c => fun s A B row hs _ _ => hs)
    ⟨⟨_, [], hbx, rfl, fun e he => by simp at he, World.ownsRow_nil _ _ _ _⟩, HB8⟩
    (fun x => { tmps := #[.agg #[.int .i64 L, .int .i64 V, .slice (some ⟨b, off, none⟩) ws.length cap], .pointer (some ⟨w.heap.size, 0, none⟩), .slice none 0 0, .pointer (some ⟨w.heap.size + 1, 0, none⟩), .string x.1, undef, .agg #[.int .i64 L, .int .i64 V, .slice (some ⟨b, off, none⟩) ws.length cap], .func (.func 115) #[] #[.pointer (some ⟨w.heap.size + 1 + 1, 0, none⟩)], .string x.1, undef, undef, undef, undef, undef, undef, undef, undef, undef, undef], defers := [] }) ?assign ?body ?done ?stop
  case assign =>
    intro l x W K hK
    simp only [encL]
    gi_wp2
    exact hK
  case body =>
    rintro l pre ⟨s, hm, hy⟩ W ⟨⟨v, es, hv, he, hE, hrow⟩, hB⟩ hlt
    obtain ⟨bk, hbk⟩ := brk_is s.size s (Nat.le_refl _) (lynB_true hy).1
    have hle : es.length ≤ 100000 := by have h := congrArg List.length he; simp only [List.length_map] at h; omega
    have HBr := Lib.hid (fun W => bracketOfY_c hbk (HS.out s hm) W)
    have HE := Lib.hid hE
    have HHe := Lib.hid he
    have HBk := Lib.hid hbk
    have HV := Lib.hid hv
    have HRow := Lib.hid hrow
    have HB := Lib.hid hB
    have hszW := hB.size
    have hvlt := hv.lt
    clear hE he hbk hB hrow
    gi_wp2_with (first
      | (refine ⟨trivial, ?_⟩; gi_at_call 76; refine (CallsIn.inRound l (callsIn_wide.2 (HBr.out _))).mono ?_; rintro e w5 ⟨⟨p, rfl, hp5⟩, hb5⟩; have hz5 := hb5.size; have HB5 := Lib.hid hb5; have HP5 := Lib.hid hp5; have hv5 : Boxed w5 (w.heap.size + 1) 70 v := (hb5.block _ hvlt).trans hv; have HV5 := Lib.hid hv5; have HR5 := Lib.hid (show w5.ownsRow w.heap.size 74 2 v es.length (cellsLb es) from own_below HRow.out hb5); have hc5 := hv5.cell; have hf5 := hv5.frozen; clear hb5 hp5 hv5)
      | (gi_at_builtin; refine wpListIn_append_own _ rfl _ _ 70 rfl w.heap.size 74 i0 _ 2 24 Tryz.underlying70 hi0 hi1 hi2 hi3 rfl (by decide) _ _ _ rfl (HR5.out.alloc _) ⟨w5.heap.size, 0, none⟩ 1 1 [.string s, vB p] rfl rfl ?news ?one (by unfold maxLen; omega) (by omega) (by simp only [World.size_alloc]; omega) ?_; rotate_left 2; intro v' w1 hown' hgrow _; obtain ⟨g', cap', rfl⟩ := ownsRow_succ hown'; obtain ⟨hv1, hv2, hr2, hk2, hb2⟩ := HV5.out.appended (by decide) HR5.out (by omega) (by omega) hown' hgrow; have hc1 := hv1.cell; have hf1 := hv1.frozen; have HV1 := Lib.hid hv1; have HV2 := Lib.hid hv2; have HR2 := Lib.hid hr2; have HK2 := Lib.hid hk2; have HB2 := Lib.hid hb2; have HG := Lib.hid (show (w5.alloc (.cells #[.string s, vB p] 74)).grownBy w1 v.ownBlock from hgrow); clear hv1 hv2 hr2 hk2 hb2 hgrow hown')
      | fail)
    case news =>
      intro j u hj
      match j, hj with
      | 0, hj => injection hj with hj; subst hj; simp [go_sem, Addr.add]
      | 1, hj => injection hj with hj; subst hj; simp [go_sem, Addr.add, vB]
      | n + 2, hj => simp at hj
    case one => intro u hu; simp at hu; rcases hu with rfl | rfl <;> simp [Value.oneCell', vB]
    refine ⟨(keeps_below' HB5.out).trans HK2.out, (HB5.out.mono (by omega)).trans HB2.out, ⟨_, es ++ [(s, p)], HV2.out, ?_, ?_, ?_⟩, HB.out.trans ((HB5.out.mono (by omega)).trans HB2.out)⟩
    · rw [List.map_append, List.map_append, HHe.out]; rfl
    · have hstep : ∀ {bq : Brk} {q : Nat}, InY w5 bq q → InY (w1.setCell ⟨w.heap.size + 1, 0, none⟩ (.slice (some ⟨g', 0, none⟩) (es.length + 1) cap')) bq q := fun {bq q} h =>
        ((h.below (below1 w5 (.cells #[.string s, vB p] 74))).grown HG.out (fun k cur hk e' => by
          have hrw := (HR5.out.alloc (.cells #[.string s, vB p] 74)).2
          rcases hrw with ⟨rfl, _⟩ | ⟨g, cp, cu, rfl, _, hgb, _⟩
          · cases e'
          · obtain rfl : k = g := by simpa [Value.ownBlock] using e'
            rw [hgb] at hk
            injection hk with hk
            injection hk with _ hk _
            exact absurd hk (by decide))).grown (grownBy_setCell' w1 _ _) (fun k cur hk e' => by
          injection e' with e'
          subst e'
          have h1 := HV1.out
          unfold Boxed at h1
          rw [h1] at hk
          injection hk with hk
          injection hk with _ hk _
          exact absurd hk (by decide))
      intro e he
      rcases List.mem_append.1 he with he | he
      · obtain ⟨bq, h1, h2⟩ := HE.out e he
        exact ⟨bq, h1, hstep (h2.below (HB5.out.mono (by omega)))⟩
      · obtain rfl : e = (s, p) := by simpa using he
        exact ⟨bk, HBk.out, hstep HP5.out⟩
    · rw [List.length_append, cellsLb_snoc]
      exact HR2.out
  case done =>
    rintro D ys W hD rfl ⟨⟨v, es, hv, he, hE, hrow⟩, hB⟩ hK
    have hc := hv.cell
    have HE := Lib.hid hE
    have HHe := Lib.hid he
    clear hE he
    gi_wp2
    refine ⟨by simp, .inl ⟨_, _, rfl, run_takeDeferred hK, ?_⟩⟩
    refine ⟨_, results_tmp rfl _ _ _, v, rfl, hB.trans (belowK_b (w := w) (Nat.le_refl _) W D _ _ (by omega) hK rfl rfl), es, by rw [HHe.out]; exact lwk_val ws, fun e h => ?_, ownsRow_putObj hrow _ hK rfl⟩
    obtain ⟨b, hb1, hb2⟩ := HE.out e h
    exact ⟨b, hb1, hb2.grown (grownBy_putObj' W D _) (fun q cur hq e' => by
      injection e' with e'
      subst e'
      rw [hq] at hK; cases hK)⟩
  case stop =>
    rintro D c pre W _ _ h _
    exact h.elim
end Go.Proofs.YtgcjpenlcokgjaaGreatDoor

namespace Go.Proofs.YtgcjpenlcokgjaaGreatDoor
open Go.RowKit

theorem cut_uniq {s : ByteArray} {i j : Nat} (h : IsCut s i) (k : IsCut s j) : i = j := by
  rcases Nat.lt_trichotomy i j with h1 | h1 | h1
  · have := k.2.2.2 i h.1 h1
    rw [h.2.2.1] at this; cases this
  · exact h1
  · have := h.2.2.2 j k.1 h1
    rw [k.2.2.1] at this; cases this
theorem brk_uniq : ∀ {s : ByteArray} {b b' : Brk}, BrkOf s b → BrkOf s b' → b = b'
  | _, _, _, .one s h, .one _ _ => rfl
  | _, _, _, .one s h, .two _ _ _ _ h2 _ _ _ => by omega
  | _, _, _, .two s i l r h2 hi hl hr, .one _ h => by omega
  | _, _, _, .two s i l r h2 hi hl hr, .two _ j l' r' _ hj hl' hr' => by
    obtain rfl := cut_uniq hi hj
    rw [brk_uniq hl hl', brk_uniq hr hr']
theorem bW_brk (ws : List ByteArray) {s : ByteArray} {b : Brk} (h1 : 1 ≤ s.size) (h : BrkOf s b) : bW ws s = brkV ws b := by
  obtain ⟨b', hb, e⟩ := bW_is ws h1
  rw [e, brk_uniq hb h]
theorem crd_good {ws : List ByteArray} {v : VF} {l : List ByteArray} : ∀ {k : Nat} {f : VF}, crdTo ws v l k = some f → GoodV ws f
  | 0, f, h => by
    injection h with h
    subst h
    exact GoodV.none _
  | k + 1, f, h => by
    rw [crdTo] at h
    obtain ⟨g, h1, h2⟩ := Option.bind_eq_some_iff.1 h
    have hg := crd_good h1
    split at h2
    · injection h2 with h2
      subst h2
      exact hg
    · split at h2
      · injection h2 with h2
        subst h2
        exact hg
      · unfold sumOne at h2
        obtain ⟨g2, _, h4⟩ := Option.bind_eq_some_iff.1 h2
        exact hg.addK (fun _ h => h) h4
/-- the list of words and brackets, cell by cell -/
theorem LbOk.row {lo : Nat} {ls : List ByteArray} {v : Value} {W : World} (h : LbOk lo ls v W) : ∃ (a : Option Addr) (cap : Nat) (qs : List Nat), v = .slice a ls.length cap ∧ qs.length = ls.length ∧
    ∀ k (hk : k < ls.length) (hq : k < qs.length), ∃ (g : Nat) (bk : Brk), a = some ⟨g, 0, none⟩ ∧ lo ≤ g ∧ g < W.heap.size ∧ W.cell? ⟨g, k * 2, none⟩ = some (.string ls[k]) ∧ W.cell? ⟨g, k * 2 + 1, none⟩ = some (vB qs[k]) ∧ BrkOf ls[k] bk ∧ InY W bk qs[k] := by
  obtain ⟨es, rfl, hE, hrow⟩ := h
  rcases id hrow.2 with ⟨rfl, h0⟩ | ⟨g, cap, cur, rfl, hlo, hgb, _⟩
  · refine ⟨none, 0, es.map (·.2), by rw [List.length_map, h0], by simp, fun k hk _ => ?_⟩
    rw [List.length_map] at hk
    omega
  · refine ⟨some ⟨g, 0, none⟩, cap, es.map (·.2), by rw [List.length_map], by simp, fun k hk hq => ?_⟩
    rw [List.length_map] at hk
    have hg := cellsLb_get es k hk
    obtain ⟨bk, h1, h2⟩ := hE _ (List.getElem_mem hk)
    refine ⟨g, bk, rfl, hlo, (Array.getElem?_eq_some_iff.1 hgb).1, ?_, ?_, ?_, ?_⟩
    · rw [hrow.cellAt (k * 2) (by omega), hg.1, List.getElem_map]
    · rw [hrow.cellAt (k * 2 + 1) (by omega), hg.2, List.getElem_map]
    · rw [List.getElem_map]; exact h1
    · rw [List.getElem_map]; exact h2

set_option maxRecDepth 100000 in
set_option maxHeartbeats 8000000 in
theorem crdWork (D N : Nat) (g1 : Nat) (ts : List Tm) (hl : ts.length ≤ 1048576) (hs : ∀ i (h : i < ts.length), (ts[i]).s.size ≤ maxLen) (hg : givB D N ts = true) (pL pV pT p b off cS : Nat) (w : World) (_hpL : pL < w.heap.size) (_hpV : pV < w.heap.size) (_hpT : pT < w.heap.size) (hp : p < w.heap.size)
    (l0 : w.cell? ⟨pL, 0, none⟩ = some (.int .i64 D)) (v0 : w.cell? ⟨pV, 0, none⟩ = some (.int .i64 N)) (t0 : w.cell? ⟨pT, 0, none⟩ = some (.slice (some ⟨g1, 0, none⟩) ts.length ts.length))
    (s0 : w.cell? ⟨p, 0, none⟩ = some (.int .i64 D)) (s1 : w.cell? ⟨p, 1, none⟩ = some (.int .i64 N)) (s2 : w.cell? ⟨p, 2, none⟩ = some (.slice (some ⟨b, off, none⟩) (allW D N).length cS)) (hb : b < w.heap.size) (hI : StrsIn w b off (allW D N)) (hb1 : g1 < w.heap.size) (t1 : TermsIn w g1 0 ts) :
    Calls Tryz.prog 39 #[.pointer (some ⟨pL, 0, none⟩), .pointer (some ⟨pV, 0, none⟩), .pointer (some ⟨pT, 0, none⟩), .pointer (some ⟨p, 0, none⟩)] w (WorkPost (serW (allW D N) ts) w) := by
  obtain ⟨hser, hly⟩ := giv_true hg
  have hsh : shapeB (D : Int) (N : Int) = true := by unfold serB at hser; rw [Bool.and_eq_true] at hser; exact hser.1
  have hDN := shape_out hsh
  have hfew := few_ser hser
  have hw121 := allW_121 D (by omega) (by omega) N (by omega) (by omega)
  have hws5 : ∀ s ∈ allW D N, s.size ≤ 1000 := fun s hs => by have := allW_size D N s hs; omega
  have hcg := (good_valV hser).1
  have HVo := Lib.hid (fun W (hW : Below w.heap.size w W) => valuesOf_c D N (some ⟨g1, 0, none⟩) ts.length ts hl hs W (.inr ⟨g1, 0, rfl, Nat.lt_of_lt_of_le hb1 hW.size, t1.below hW hb1⟩))
  have HLb := Lib.hid (fun W (hW : Below w.heap.size w W) => lieBrackets_c D N b off cS (allW D N) (by omega) hws5 W (Nat.lt_of_lt_of_le hb hW.size) (hI.below hW hb))
  have HSr := Lib.hid (fun W (hW : Below w.heap.size w W) => show SRow W (some ⟨b, off, none⟩) (allW D N) from .inr ⟨b, off, rfl, Nat.lt_of_lt_of_le hb hW.size, hI.below hW hb⟩)
  have HVi := Lib.hid (fun (bk : Brk) (hi : bk.inW (allW D N)) q W (hW : Below w.heap.size w W) (hq : q < W.heap.size) (hT : InT W bk q) => valuesIn_c D N (some ⟨b, off, none⟩) cS (allW D N) (by omega) hws5 bk q hi W hq hT (HSr.out W hW) (fun r e => by injection e with e; rw [← e]; exact Nat.lt_of_lt_of_le hb hW.size))
  have HBin := Lib.hid (fun (s : ByteArray) (bk : Brk) (h : BrkOf s bk) (hm : s ∈ allW D N) => show bk.inW (allW D N) from brk_in (by omega) (by omega) h (allW_B (by omega) N s hm))
  have HAd := Lib.hid (fun (f g : VF) (hf : GoodV (allW D N) f) hg (x z : Int) (hxz : isF x z = true) bs n bx m (hn : n ≤ 900000) (hbs : w.heap.size ≤ bs) (hne : bx ≠ bs) W (hW : Below w.heap.size w W) m1 m2 => addMultiple_c (D : Int) (N : Int) (some ⟨b, off, none⟩) cS (allW D N) (by omega) hws5 f g hf hg x z hxz bs n bx m hn hne W (HSr.out W hW) (fun r e => by injection e with e; rw [← e]; show b ≠ bs; omega) m1 m2)
  have KS := Lib.hid (show ∀ w', Below w.heap.size w w' → (w'.cell? ⟨p, 0, none⟩ = some (.int .i64 D) ∧ w'.cell? ⟨p, 1, none⟩ = some (.int .i64 N) ∧ w'.cell? ⟨p, 2, none⟩ = some (.slice (some ⟨b, off, none⟩) (allW D N).length cS)) from fun w' hb => ⟨(hb.cell (p := ⟨p, 0, none⟩) hp).trans s0, (hb.cell (p := ⟨p, 1, none⟩) hp).trans s1, (hb.cell (p := ⟨p, 2, none⟩) hp).trans s2⟩)
  obtain ⟨o, ho⟩ : ∃ o, serW (allW D N) ts = o := ⟨_, rfl⟩
  rw [ho]
  have HOut0 := crd_giv hser hly
  rw [ho] at HOut0
  obtain ⟨vf, hvf⟩ : ∃ vf, valV ts ts.length = vf := ⟨_, rfl⟩
  have HVf := Lib.hid hvf
  rw [hvf] at HOut0 hcg
  have HCg := Lib.hid hcg
  obtain ⟨ls, hls⟩ : ∃ ls, (allW D N).filter lynB = ls := ⟨_, rfl⟩
  have HLs := Lib.hid (show ∀ s ∈ ls, s ∈ allW D N ∧ lynB s = true from fun s h => by rw [← hls] at h; exact List.mem_filter.1 h)
  have hll : ls.length ≤ 121 := by rw [← hls]; exact Nat.le_trans (List.length_filter_le ..) hw121
  rw [hls] at HOut0 HLb
  have HOut := Lib.hid HOut0
  have HDead := Lib.hid (fun k (hk : k ≤ ls.length) (e : crdTo (allW D N) vf ls k = none) => (show o = none from HOut.out.symm.trans (crd_dead e hk)))
  have hmm := @run_makeMap Tryz.prog
  clear hs t1 hsh ho hI hly hser hg hls hvf hcg HOut0
  go_enter Tryz.func39, Tryz.ntmps39
  go_wp2_with fail
  refine (HVo.out _ (Below.refl _ _)).mono ?_
  rintro e w1 ⟨bc, rfl, hbc, hB1, hMc⟩
  rw [HVf.out] at hMc
  have hz1 := hB1.size
  have HB1 := Lib.hid hB1
  have HMc := Lib.hid hMc
  have hbcz := hMc.lt
  obtain ⟨r0, r1, r2⟩ := KS.out _ hB1
  have hB2 : Below w.heap.size w (w1.alloc (.map #[] 0)) := hB1.alloc (by omega) _
  have u0 : (w1.alloc (.map #[] 0)).cell? ⟨p, 0, none⟩ = some (.int .i64 D) := (KS.out _ hB2).1
  have u1 : (w1.alloc (.map #[] 0)).cell? ⟨p, 1, none⟩ = some (.int .i64 N) := (KS.out _ hB2).2.1
  have u2 : (w1.alloc (.map #[] 0)).cell? ⟨p, 2, none⟩ = some (.slice (some ⟨b, off, none⟩) (allW D N).length cS) := (KS.out _ hB2).2.2
  have HB2 := Lib.hid hB2
  clear hB1 hB2 hMc l0 v0 t0 s0 s1 s2 r0 r1 r2
  go_wp2_with fail
  have HM2 := Lib.hid (MapV.made w1)
  have HMc2 := Lib.hid (HMc.out.alloc (.map #[] 0))
  have hz2 : (w1.alloc (.map #[] 0)).heap.size = w1.heap.size + 1 := by simp
  clear hmm u0 u1 u2
  refine (HLb.out _ HB2.out).mono ?_
  rintro e w3 ⟨v, rfl, hB3, hLb⟩
  obtain ⟨aR, cR, qs, rfl, hqs, hrow⟩ := hLb.row
  rw [hz2] at hrow
  have hz3 := hB3.size
  rw [hz2] at hz3
  have HB3 := Lib.hid (HB2.out.trans (hB3.mono (by omega)))
  have HM3 := Lib.hid (HM2.out.below hB3 (by omega))
  have HMc3 := Lib.hid (HMc2.out.below hB3 (by omega))
  have HRow := Lib.hid hrow
  have HHm := Lib.hid (show ∀ (q : Nat) (cur : Array Value), w3.heap[q]? = some (.cells cur 145 (0, 0)) → some q ≠ some w1.heap.size from fun q cur hq e => by
    injection e with e
    subst e
    have h := (hB3.block w1.heap.size (by omega)).trans (World.alloc_heap_new w1 (.map #[] 0))
    rw [h] at hq
    cases hq)
  clear hB3 hLb hrow hz2
  go_wp2_with fail
  go_loopw [20] (fun v20 wr => ∃ (k : Nat) (f : VF) (n : Nat), k ≤ ls.length ∧ v20 = .int .i64 k ∧ crdTo (allW D N) vf ls k = some f ∧ n ≤ k * 121 ∧ MapV wr w1.heap.size n f ∧ w3.grownBy wr (some w1.heap.size)) (fun v20 _ => ls.length - (intOf v20).toNat)
  case atStart => exact ⟨0, fun _ => none, 0, Nat.zero_le _, rfl, rfl, Nat.zero_le _, HM3.out, World.grownBy.refl w3 _⟩
  case round =>
    obtain ⟨k, f, n, hk, rfl, hfk, hn, hM, hG⟩ := hrel
    obtain ⟨wo, rfl⟩ : ∃ wo : World, wo = wr := ⟨_, rfl⟩
    have HFk := Lib.hid hfk
    have HM := Lib.hid hM
    have hzo := hG.size
    have HB := Lib.hid (HB3.out.trans (below_of_grown hG (fun g e => by injection e with e; omega) (by omega)))
    have HG := Lib.hid hG
    have HMk := Lib.hid (HMc3.out.grown hG (fun e => by injection e with e; omega))
    clear hfk hM hG
    by_cases hlt : k < ls.length
    · obtain ⟨gR, bk, rfl, hgl, hgz, c0, c1, hbk, hyk⟩ := HRow.out k hlt (by omega)
      have c0 := (gr_cell HG.out hgz (by omega)).trans c0
      have c1 := (gr_cell HG.out hgz (by omega)).trans c1
      have HY := Lib.hid (hyk.grown HG.out HHm.out)
      have hmem := HLs.out _ (List.getElem_mem hlt)
      have HSk := Lib.hid (fun h => crd_skip (ws := allW D N) hlt h HFk.out)
      have HNx := Lib.hid (fun pq h => crd_next (ws := allW D N) (p := pq) hlt h HFk.out)
      obtain ⟨s, hs⟩ : ∃ s, ls[k] = s := ⟨_, rfl⟩
      obtain ⟨q, hq⟩ : ∃ q, qs[k] = q := ⟨_, rfl⟩
      rw [hs] at c0 hbk hmem HSk HNx
      rw [hq] at c1 HY
      unfold vB at c1
      have hs1 : 1 ≤ s.size := (lynB_true hmem.2).1
      have hsm : s.size ≤ maxLen := by have := allW_size D N s hmem.1; unfold maxLen; omega
      have HIn := Lib.hid (HBin.out s bk hbk hmem.1)
      have HBw := Lib.hid (bW_brk (allW D N) hs1 hbk)
      have hk1 : IntKind.i64.wrap ((k : Int) + 1) = (k : Int) + 1 := IntWalk.i64_in _ (by omega)
      have hkl : (k : Int) < (ls.length : Int) := by omega
      obtain ⟨kk0, kk1, kk2⟩ := KS.out _ HB.out
      clear hs hq hyk hbk hmem
      cases hv : vf s with
      | none =>
        have HV0 := Lib.hid hv
        have HN9 := Lib.hid (HSk.out hv)
        clear hv kk0 kk1 kk2
        go_wp2_with (first | (at_lookup; refine wpList_lookV rfl _ _ rfl rfl (HMk.out.alloc _) s rfl hsm ?_; rw [HV0.out]; simp only [lookV]) | fail)
        go_roundw
        case rel => exact ⟨k + 1, f, n, hlt, by go_num, HN9.out, by omega, (HM.out.alloc _).alloc _, gr_trans HG.out (gr_below ((below1 _ _).trans ((below1 _ _).mono (by simp))))⟩
        case measure => simp [intOf]; omega
      | some pq =>
        obtain ⟨nn, d⟩ := pq
        have HV0 := Lib.hid hv
        have HN8 := Lib.hid (HNx.out _ hv)
        have HisF := Lib.hid (HCg.out s _ hv).2.1
        have HGf := Lib.hid (crd_good HFk.out)
        clear hv
        go_upto_region 8 with (first | (at_lookup; refine wpList_lookV rfl _ _ rfl rfl (HMk.out.alloc _) s rfl hsm ?_; rw [HV0.out]; simp only [lookV]) | fail)
        have hTt := (below1 wo (.cells #[.string s, .func (.func 78) #[.pointer (some ⟨q, 0, none⟩)] #[]] 74)).trans ((below1 (wo.alloc (.cells #[.string s, .func (.func 78) #[.pointer (some ⟨q, 0, none⟩)] #[]] 74)) (.cells #[.int .i64 nn, .int .i64 d] 58)).mono (by simp))
        have e0 : ((wo.alloc (.cells #[.string s, .func (.func 78) #[.pointer (some ⟨q, 0, none⟩)] #[]] 74)).alloc (.cells #[.int .i64 nn, .int .i64 d] 58)).cell? ⟨wo.heap.size, 0, none⟩ = some (.string s) := by go_simp
        have e1 : ((wo.alloc (.cells #[.string s, .func (.func 78) #[.pointer (some ⟨q, 0, none⟩)] #[]] 74)).alloc (.cells #[.int .i64 nn, .int .i64 d] 58)).cell? ⟨wo.heap.size, 1, none⟩ = some (.func (.func 78) #[.pointer (some ⟨q, 0, none⟩)] #[]) := by go_simp
        have f0 : ((wo.alloc (.cells #[.string s, .func (.func 78) #[.pointer (some ⟨q, 0, none⟩)] #[]] 74)).alloc (.cells #[.int .i64 nn, .int .i64 d] 58)).cell? ⟨wo.heap.size + 1, 0, none⟩ = some (.int .i64 nn) := by go_simp
        have f1 : ((wo.alloc (.cells #[.string s, .func (.func 78) #[.pointer (some ⟨q, 0, none⟩)] #[]] 74)).alloc (.cells #[.int .i64 nn, .int .i64 d] 58)).cell? ⟨wo.heap.size + 1, 1, none⟩ = some (.int .i64 d) := by go_simp
        have hvz : ((wo.alloc (.cells #[.string s, .func (.func 78) #[.pointer (some ⟨q, 0, none⟩)] #[]] 74)).alloc (.cells #[.int .i64 nn, .int .i64 d] 58)).heap.size = wo.heap.size + 1 + 1 := by simp
        have HBq := Lib.hid (HB.out.trans (hTt.mono (by omega)))
        have HMq := Lib.hid ((HM.out.alloc (.cells #[.string s, .func (.func 78) #[.pointer (some ⟨q, 0, none⟩)] #[]] 74)).alloc (.cells #[.int .i64 nn, .int .i64 d] 58))
        have HYq := Lib.hid (HY.out.below hTt)
        have HGq := Lib.hid (gr_trans HG.out (gr_below (r := some w1.heap.size) hTt))
        generalize (wo.alloc (.cells #[.string s, .func (.func 78) #[.pointer (some ⟨q, 0, none⟩)] #[]] 74)).alloc (.cells #[.int .i64 nn, .int .i64 d] 58) = wq at *
        obtain ⟨s0', s1', s2'⟩ := KS.out _ HBq.out
        have hpq : p < wq.heap.size := by omega
        have h8q : wo.heap.size < wq.heap.size := by omega
        have h9q : wo.heap.size + 1 < wq.heap.size := by omega
        have KW := Lib.hid (show ∀ w', Below wq.heap.size wq w' → (w'.cell? ⟨p, 0, none⟩ = some (.int .i64 D) ∧ w'.cell? ⟨p, 1, none⟩ = some (.int .i64 N) ∧ w'.cell? ⟨p, 2, none⟩ = some (.slice (some ⟨b, off, none⟩) (allW D N).length cS) ∧ w'.cell? ⟨wo.heap.size, 0, none⟩ = some (.string s) ∧ w'.cell? ⟨wo.heap.size, 1, none⟩ = some (.func (.func 78) #[.pointer (some ⟨q, 0, none⟩)] #[]) ∧ w'.cell? ⟨wo.heap.size + 1, 0, none⟩ = some (.int .i64 nn) ∧ w'.cell? ⟨wo.heap.size + 1, 1, none⟩ = some (.int .i64 d)) from fun w' hb => ⟨(hb.cell (p := ⟨p, 0, none⟩) hpq).trans s0', (hb.cell (p := ⟨p, 1, none⟩) hpq).trans s1', (hb.cell (p := ⟨p, 2, none⟩) hpq).trans s2', (hb.cell (p := ⟨wo.heap.size, 0, none⟩) h8q).trans e0, (hb.cell (p := ⟨wo.heap.size, 1, none⟩) h8q).trans e1, (hb.cell (p := ⟨wo.heap.size + 1, 0, none⟩) h9q).trans f0, (hb.cell (p := ⟨wo.heap.size + 1, 1, none⟩) h9q).trans f1⟩)
        have hwp : p ≠ w1.heap.size := by omega
        have hw8 : wo.heap.size ≠ w1.heap.size := by omega
        have hw9 : wo.heap.size + 1 ≠ w1.heap.size := by omega
        have KG := Lib.hid (show ∀ w', wq.grownBy w' (some w1.heap.size) → (w'.cell? ⟨p, 0, none⟩ = some (.int .i64 D) ∧ w'.cell? ⟨p, 1, none⟩ = some (.int .i64 N) ∧ w'.cell? ⟨p, 2, none⟩ = some (.slice (some ⟨b, off, none⟩) (allW D N).length cS) ∧ w'.cell? ⟨wo.heap.size, 0, none⟩ = some (.string s) ∧ w'.cell? ⟨wo.heap.size, 1, none⟩ = some (.func (.func 78) #[.pointer (some ⟨q, 0, none⟩)] #[]) ∧ w'.cell? ⟨wo.heap.size + 1, 0, none⟩ = some (.int .i64 nn) ∧ w'.cell? ⟨wo.heap.size + 1, 1, none⟩ = some (.int .i64 d)) from fun w' hG => ⟨(gr_cell hG hpq hwp).trans s0', (gr_cell hG hpq hwp).trans s1', (gr_cell hG hpq hwp).trans s2', (gr_cell hG h8q hw8).trans e0, (gr_cell hG h8q hw8).trans e1, (gr_cell hG h9q hw9).trans f0, (gr_cell hG h9q hw9).trans f1⟩)
        obtain ⟨r, hr⟩ : ∃ r, brkV (allW D N) bk = r := ⟨_, rfl⟩
        have HGg := Lib.hid (fun g2 (e : r = some g2) => brkV_isF (hr.trans e))
        have HVw := Lib.hid (fun W (hW : Below wq.heap.size wq W) => HVi.out bk HIn.out q W (HBq.out.trans (hW.mono (by omega))) (HYq.out.below hW).toT.lt (HYq.out.below hW).toT)
        rw [hr] at HVw HBw
        obtain ⟨qv, hqv⟩ : ∃ qv, sumOne (allW D N) ⟨s, nn, d⟩ f = qv := ⟨_, rfl⟩
        have HLn := Lib.hid (fun (e : r = none) => show qv = none from hqv.symm.trans (sum_none (HBw.out.trans e)))
        have HSm := Lib.hid (fun g2 (e : r = some g2) => show qv = addK g2 nn d (allW D N) f from hqv.symm.trans (sum_some (HBw.out.trans e)))
        rw [hqv] at HN8
        have HAw := Lib.hid (fun g2 (e : r = some g2) bx mx (hne : w1.heap.size < bx) W (hW : Below wq.heap.size wq W) m1 m2 => HAd.out f g2 HGf.out (HGg.out g2 e) nn d HisF.out w1.heap.size n bx mx (by omega) (by omega) (by omega) W (HBq.out.trans (hW.mono (by omega))) m1 m2)
        clear hTt kk0 kk1 kk2 c0 c1 hr hqv e0 e1 f0 f1 s0' s1' s2'
        go_region_held2 (fun w' => w'.cell? ⟨p, 0, none⟩ = some (.int .i64 D) ∧ w'.cell? ⟨p, 1, none⟩ = some (.int .i64 N) ∧ w'.cell? ⟨p, 2, none⟩ = some (.slice (some ⟨b, off, none⟩) (allW D N).length cS) ∧ w'.cell? ⟨wo.heap.size, 0, none⟩ = some (.string s) ∧ w'.cell? ⟨wo.heap.size, 1, none⟩ = some (.func (.func 78) #[.pointer (some ⟨q, 0, none⟩)] #[]) ∧ w'.cell? ⟨wo.heap.size + 1, 0, none⟩ = some (.int .i64 nn) ∧ w'.cell? ⟨wo.heap.size + 1, 1, none⟩ = some (.int .i64 d))
          (first | (exact KG.out _ hG9) | ((refine KW.out _ ?_); (repeat' (first | with_reducible assumption | with_reducible exact Below.refl _ _ | (with_reducible refine Below.drew ?_) | (with_reducible refine Below.setCell ?_ (by (try dsimp only); omega) _) | (with_reducible refine Below.alloc ?_ (by (try simp only [World.size_setCell]); (try simp only [World.size_drew]); (try simp only [World.size_alloc]); (try simp only [World.size_setCell]); (try simp only [World.size_alloc]); omega) _))); done) | fail)
          (first
            | (go_at_call 78; (with_reducible refine work_or (HVw.out _ ?_) ?_ ?_); (focus repeat' (first | with_reducible assumption | with_reducible exact Below.refl _ _ | (with_reducible refine Below.drew ?_) | (with_reducible refine Below.setCell ?_ (by (try dsimp only); omega) _) | (with_reducible refine Below.alloc ?_ (by (try simp only [World.size_setCell]); (try simp only [World.size_drew]); (try simp only [World.size_alloc]); (try simp only [World.size_setCell]); (try simp only [World.size_alloc]); omega) _))); (focus (intro e w' hb'; refine ⟨rfl, ?_⟩; rw [HDead.out (k + 1) (by omega) (HN8.out.trans (HLn.out e))]; exact ⟨rfl, HBq.out.trans ((below_step (by repeat' (first | with_reducible assumption | with_reducible exact Below.refl _ _ | (with_reducible refine Below.drew ?_) | (with_reducible refine Below.setCell ?_ (by (try dsimp only); omega) _) | (with_reducible refine Below.alloc ?_ (by (try simp only [World.size_setCell]); (try simp only [World.size_drew]); (try simp only [World.size_alloc]); (try simp only [World.size_setCell]); (try simp only [World.size_alloc]); omega) _))) hb' (Nat.le_refl _)).mono (by omega))⟩)); intro bx mx fx wx eX hlx hb0 hnx hMx; have hbx : Below wq.heap.size wq wx := below_step (by repeat' (first | with_reducible assumption | with_reducible exact Below.refl _ _ | (with_reducible refine Below.drew ?_) | (with_reducible refine Below.setCell ?_ (by (try dsimp only); omega) _) | (with_reducible refine Below.alloc ?_ (by (try simp only [World.size_setCell]); (try simp only [World.size_drew]); (try simp only [World.size_alloc]); (try simp only [World.size_setCell]); (try simp only [World.size_alloc]); omega) _))) hb0 (Nat.le_refl _); have hzx : w1.heap.size < bx := (by (try simp only [World.size_drew] at hlx); omega))
            | (go_at_call 42; (with_reducible refine add_or (HAw.out fx eX bx mx hzx _ ?_ ?_ ?_) ?_ ?_); (focus repeat' (first | with_reducible assumption | with_reducible exact Below.refl _ _ | (with_reducible refine Below.drew ?_) | (with_reducible refine Below.setCell ?_ (by (try dsimp only); omega) _) | (with_reducible refine Below.alloc ?_ (by (try simp only [World.size_setCell]); (try simp only [World.size_drew]); (try simp only [World.size_alloc]); (try simp only [World.size_setCell]); (try simp only [World.size_alloc]); omega) _))); (focus (exact HMq.out.below hbx (by omega))); (focus (with_reducible exact hMx)); (focus (intro e w' hg'; refine ⟨rfl, ?_⟩; rw [HDead.out (k + 1) (by omega) (HN8.out.trans ((HSm.out fx eX).trans e))]; exact ⟨rfl, HBq.out.trans ((hbx.mono (by omega)).trans (below_of_grown hg' (fun g e => by injection e with e; omega) (by have := hbx.size; omega)))⟩)); intro h9 w9 e9 hM9 hG0; have hG9 : wq.grownBy w9 (some w1.heap.size) := gr_trans (gr_below hbx) hG0)
            | fail)
        all_goals
          have HM9 := Lib.hid hM9
          have HG9 := Lib.hid (gr_trans HGq.out hG9)
          have HN9 := Lib.hid (show crdTo (allW D N) vf ls (k + 1) = some h9 from HN8.out.trans ((HSm.out fx eX).trans e9))
          clear hM9 hG9 hbx
          go_wp2_with fail
          go_roundw
          case rel => exact ⟨k + 1, h9, n + (allW D N).length, hlt, by go_num, HN9.out, by omega, HM9.out, HG9.out⟩
          case measure => simp [intOf]; omega
    · obtain rfl : k = ls.length := by omega
      have HO2 := Lib.hid (HOut.out.symm.trans HFk.out)
      go_wp2
      rw [HO2.out]
      go_ret
      exact ⟨w1.heap.size, n, rfl, by omega, HB.out, by omega, HM.out⟩
end Go.Proofs.YtgcjpenlcokgjaaGreatDoor
