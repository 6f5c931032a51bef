/-
  TablesOfWord of the model: its tables row by row, and its contract.
-/
import Derived.Test.YtknigggjnjkhbaaTabW
import Derived.Test.YtknigggjnjkhbaaTimT
namespace Go.Proofs.Ytknigggjnjkhbaa
open Go.RowKit

def hdsP (n : Nat) (A : Nat → Option Addr) (C : Nat → Nat) (k : Nat) : List Hd := (List.range k).map fun r => ⟨A r, n, C r⟩
theorem hdsP_length (n : Nat) (A : Nat → Option Addr) (C : Nat → Nat) (k : Nat) : (hdsP n A C k).length = k := by simp [hdsP]
theorem hdsP_succ (n : Nat) (A : Nat → Option Addr) (C : Nat → Nat) (k : Nat) (a : Option Addr) (c : Nat) : hdsP n (fun r => if r = k then a else A r) (fun r => if r = k then c else C r) (k + 1) = hdsP n A C k ++ [⟨a, n, c⟩] := by
  unfold hdsP
  rw [List.range_succ, List.map_append]
  congr 1
  · refine List.map_congr_left fun r hr => ?_
    have hne : ¬ r = k := by have := List.mem_range.1 hr; omega
    show (⟨if r = k then a else A r, n, if r = k then c else C r⟩ : Hd) = _
    rw [if_neg hne, if_neg hne]
  · simp
/-- tables of lists of lists, each within bounds of its own, and the row of their headers, which lies in none of these bounds -/
def TabsP (n k lo : Nat) (w : World) (v : Value) (A : Nat → Option Addr) (C L U : Nat → Nat) (f : Nat → MF) : Prop :=
  OwnHT w lo v (hdsP n A C k) ∧ ∀ r, r < k → lo ≤ L r ∧ L r ≤ U r ∧ U r ≤ w.heap.size ∧ PRow (L r) (U r) w (A r) (tabF n (f r)) ∧ ∀ g, v.ownBlock = some g → g < L r ∨ U r ≤ g
theorem TabsP.snoc {n k lo : Nat} {w w1 w9 : World} {v v9 : Value} {A : Nat → Option Addr} {C L U : Nat → Nat} {f : Nat → MF} (T : TabsP n k lo w v A C L U f) (hlo : lo ≤ w.heap.size) (hb : Below w.heap.size w w1) {a : Option Addr} {c : Nat} (hP : PRow w.heap.size w1.heap.size w1 a (tabF n (f k))) (o : Obj)
    (hO : OwnHT w9 lo v9 (hdsP n A C k ++ [⟨a, n, c⟩])) (hg : (w1.alloc o).grownBy w9 v.ownBlock) (hv : v9.ownBlock = v.ownBlock ∨ v9.ownBlock = some (w1.heap.size + 1)) :
    ∃ A' C' L' U', TabsP n (k + 1) lo w9 v9 A' C' L' U' f := by
  obtain ⟨t1, t2⟩ := T
  have hown := t1.lt
  have hs1 := hb.size
  have hs9 : w1.heap.size + 1 ≤ w9.heap.size := by have := hg.size; simpa using this
  have hb1 : Below w1.heap.size w1 (w1.alloc o) := below1 w1 o
  have hOut : ∀ (lo' hi' : Nat), (∀ x, v.ownBlock = some x → lo' ≤ x ∧ x < hi') → Outside lo' hi' (w1.alloc o) w9 := fun lo' hi' q => Outside.of_grown hg q
  have keep : ∀ (l h : Nat) (A : Option Addr) (ps : List (List Int)), PRow l h w1 A ps → h ≤ w1.heap.size → (∀ x, v.ownBlock = some x → x < l ∨ h ≤ x) → PRow l h w9 A ps := fun l h A ps q hh hx => by
    have q2 := q.below hb1 hh
    cases hob : v.ownBlock with
    | none => exact q2.outside (hOut h h (fun x e => by rw [hob] at e; cases e)) (by rw [World.size_alloc]; omega) (.inl (Nat.le_refl _))
    | some x => exact q2.outside (hOut x (x + 1) (fun y e => by rw [hob] at e; injection e with e; omega)) (by rw [World.size_alloc]; omega) (by have := hx x hob; omega)
  have hv9 : ∀ x, v9.ownBlock = some x → (v.ownBlock = some x) ∨ x = w1.heap.size + 1 := fun x e => by
    rcases hv with q | q
    · exact .inl (q.symm.trans e)
    · refine .inr ?_
      rw [q] at e
      injection e with e
      exact e.symm
  refine ⟨fun r => if r = k then a else A r, fun r => if r = k then c else C r, fun r => if r = k then w.heap.size else L r, fun r => if r = k then w1.heap.size else U r, by rw [hdsP_succ]; exact hO, fun r hr => ?_⟩
  by_cases e : r = k
  · subst e
    simp only [if_pos]
    refine ⟨hlo, hs1, by omega, keep _ _ _ _ hP (Nat.le_refl _) (fun x hx => .inl (hown x hx).2), fun x hx => ?_⟩
    rcases hv9 x hx with q | q
    · exact .inl (hown x q).2
    · exact .inr (by omega)
  · simp only [if_neg e]
    obtain ⟨a1, a2, a3, a4, a5⟩ := t2 r (by omega)
    refine ⟨a1, a2, by omega, keep _ _ _ _ (a4.below hb a3) (by omega) a5, fun x hx => ?_⟩
    rcases hv9 x hx with q | q
    · exact a5 x q
    · exact .inr (by omega)
theorem TabsP.row {n k lo : Nat} {w : World} {a : Option Addr} {l c : Nat} {A : Nat → Option Addr} {C L U : Nat → Nat} {f : Nat → MF} (T : TabsP n k lo w (.slice a l c) A C L U f) : l = k ∧ TRow lo w.heap.size w a ((List.range k).map fun r => tabF n (f r)) := by
  obtain ⟨t1, t2⟩ := T
  obtain ⟨e, hN⟩ := t1.at_
  rw [hdsP_length] at e
  refine ⟨e, ?_⟩
  rcases hN with h0 | ⟨hb, rfl, hh1, hh2, hM, hI⟩
  · have h1 := hdsP_length n A C k
    rw [h0] at h1
    have h2 : k = 0 := h1.symm
    subst h2
    exact .inl rfl
  · refine .inr ⟨hb, 0, rfl, hh1, hh2, fun i hi => ?_⟩
    have hi' : i < k := by simpa using hi
    obtain ⟨a1, a2, a3, a4, a5⟩ := t2 i hi'
    have hq := hI i (by rw [hdsP_length]; exact hi')
    have hg2 : ((List.range k).map fun r => tabF n (f r))[i] = tabF n (f i) := by simp
    refine ⟨A i, C i, ?_, ?_⟩
    · rw [hg2, tabF_length, hq]
      simp [hdsP]
    · rw [hg2]
      exact a4.mono a1 a3

/-- tables by reading, and a code -/
def TbrPost (ts : Tabs) (c : Int) (W : World) (e : Ending) (w' : World) : Prop :=
  ∃ (a : Option Addr) (cap : Nat), e = .returned (.tuple #[.slice a ts.length cap, .int .i64 c]) ∧ Below W.heap.size W w' ∧ TRow W.heap.size w'.heap.size w' a ts
def TbsPost (ts : Tabs) (W : World) (e : Ending) (w' : World) : Prop :=
  ∃ (a : Option Addr) (cap : Nat), e = .returned (.slice a ts.length cap) ∧ Below W.heap.size W w' ∧ TRow W.heap.size w'.heap.size w' a ts

set_option maxRecDepth 100000 in
set_option maxHeartbeats 4000000 in
theorem l08Tables_c (d : Nat) (hd : 1 ≤ d ∧ d ≤ 3) (s : ByteArray) (hw : wordB (d : Int) s.data.toList = true) (h5 : s.size ≤ 5) (w : World) :
    Calls Try.prog 42 #[.int .i64 d, .string s] w (TbsPost (wordT d s) w) := by
  have HLet := Lib.hid (fun k (hk : k < s.size) => letN_lt (ts := List.replicate d []) hw (by simp) hk)
  obtain ⟨n, hn⟩ : ∃ n, s.size + 1 = n := ⟨_, rfl⟩
  have HN := Lib.hid hn
  have hn6 : 1 ≤ n ∧ n ≤ 6 := by omega
  have hs1 : (s.size : Int) + 1 = (n : Int) := by omega
  obtain ⟨O, hmk, hmade⟩ := make_ints n (by omega)
  simp only [← hs1] at hmk
  have HM := Lib.hid hmade
  have e0 : (0 : Int) ≤ (s.size : Int) + 1 := by omega
  have hd3 : (d : Int) ≤ 3 := by omega
  clear hw hs1 hn hmade
  go_enter Try.func42, Try.ntmps42
  go_wp2
  go_loopw [5, 6] (fun v5 v6 wr => ∃ (k : Nat) (a : Option Addr) (l c : Nat) (A : Nat → Option Addr) (C L U : Nat → Nat), k ≤ d ∧ v6 = .int .i64 k ∧ v5 = .slice a l c ∧ Hid (l = k) ∧ TabsP n k w.heap.size wr (.slice a l c) A C L U (wtF s) ∧ Below w.heap.size w wr) (fun _ v6 _ => d - (intOf v6).toNat)
  case atStart => exact ⟨0, _, _, _, fun _ => none, fun _ => 0, fun _ => 0, fun _ => 0, Nat.zero_le _, rfl, rfl, Lib.hid rfl, ⟨OwnHT.emptyRow (heap_alloc_new w _) (Nat.le_refl _), fun r hr => absurd hr (Nat.not_lt_zero _)⟩, below1 w _⟩
  case round =>
    obtain ⟨k, a, l, c, A, C, L, U, hk, rfl, rfl, hl, hT, hB⟩ := hrel
    obtain ⟨wo, rfl⟩ : ∃ wo : World, wo = wr := ⟨_, rfl⟩
    have HT := Lib.hid hT
    have HB := Lib.hid hB
    have hzw := hB.size
    clear hT hB
    by_cases hlt : k < d
    · have hl3 : l ≤ 3 := by have := hl.out; omega
      go_wp2
      go_loopw [7, 8] (fun v7 v8 wr => ∃ (i : Nat) (a2 : Option Addr) (l2 c2 : Nat), i ≤ n ∧ v8 = .int .i64 i ∧ v7 = .slice a2 l2 c2 ∧ Hid (l2 = i) ∧ OwnP wr wo.heap.size (.slice a2 l2 c2) ((tabF n (wtF s k)).take i) ∧ Below wo.heap.size wo wr) (fun _ v8 _ => n - (intOf v8).toNat)
      case atStart => exact ⟨0, _, _, _, Nat.zero_le _, rfl, rfl, Lib.hid rfl, OwnP.emptyRow (heap_alloc_new wo _) (Nat.le_refl _), below1 wo _⟩
      case round =>
        obtain ⟨i, a2, l2, c2, hi, rfl, rfl, hl2, hO, hBi⟩ := hrel
        have HO := Lib.hid hO
        have HBi := Lib.hid hBi
        have hzi := hBi.size
        clear hO hBi
        by_cases hlti : i < n
        · have hR0 := RowG.made (HM.out wr).1 (HM.out wr).2
          have HR0 := Lib.hid hR0
          have HTk := Lib.hid (tabF_take (F := wtF s k) hlti)
          have hl6 : l2 ≤ 6 := by have := hl2.out; omega
          have HLt := Lib.hid (show l2 = ((tabF n (wtF s k)).take i).length from by rw [List.length_take, tabF_length, hl2.out]; omega)
          have hile : (i : Int) ≤ (s.size : Int) := by have := HN.out; omega
          have HW0 := Lib.hid (below1 wr O)
          by_cases his : i < s.size
          · have hlet := HLet.out i his
            have hx := hlet.2
            have hxm : ((s[i].toNat : Int) - 48) % 256 = (letN s i : Int) := by have h1 := hlet.1; rw [hx]; simp at h1; omega
            clear hlet hx
            have hjn : i + 1 < n := by have := HN.out; omega
            have hjn' : (i : Int) + 1 < (n : Int) := by omega
            have hisz : (i : Int) < (s.size : Int) := by omega
            have hc0 := hR0.2 (i + 1) hjn
            have hf0 := (hR0.1.2 (i + 1) hjn).2
            obtain ⟨q, hqe⟩ : ∃ q, letN s i = q := ⟨_, rfl⟩
            have HQ := Lib.hid hqe
            rw [hqe] at hxm
            clear hR0 hqe
            by_cases hqk : q = k
            · subst hqk
              have HR1 := Lib.hid (HR0.out.set hjn 1)
              have HE := Lib.hid (show (List.range n).map (fun j => if j = i + 1 then (1 : Int) else 0) = (List.range n).map (wtF s q i) from List.map_congr_left fun j _ => by
                unfold wtF
                by_cases e : j = i + 1
                · rw [if_pos e, if_pos ⟨e, his, HQ.out⟩]
                · rw [if_neg e, if_neg (fun h => e h.1)])
              have HW1 := Lib.hid ((below1 wr O).setCell (p := ⟨wr.heap.size, i + 1, none⟩) (Nat.le_refl _) (.int .i64 1))
              have HZ1 := Lib.hid (show NewI wr.heap.size (wr.heap.size + 1) _ _ ((List.range n).map (wtF s q i)) from by rw [← HE.out]; exact HR1.out.newI (lo := wr.heap.size) (hi := wr.heap.size + 1) (Nat.le_refl _) (Nat.lt_succ_self _))
              clear HR0
              go_wp2_with (at_builtin; refine wpList_append_path rfl _ _ rfl wo.heap.size wr _ a2 l2 c2 ((tabF n (wtF s q)).take i) ((List.range n).map (wtF s q i)) (some ⟨wr.heap.size, 0, none⟩) n n rfl HLt.out HO.out HW1.out (by have h := HZ1.out; exact h.mono (Nat.le_refl _) (by simp)) (by simp) (by simp only [World.size_setCell, World.size_alloc]; rfl) (by omega) hzi ?_)
              intro a9 q9 w9 hO9 hB9 hz9
              have HO9 := Lib.hid (show OwnP w9 wo.heap.size (.slice a9 (l2 + 1) q9) ((tabF n (wtF s q)).take (i + 1)) from by rw [HTk.out]; exact hO9)
              have HB9 := Lib.hid (HBi.out.trans ((HW1.out.mono hzi).trans hB9))
              clear hO9 hB9 hc0 hf0
              go_wp2
              go_roundw
              case rel => exact ⟨i + 1, a9, l2 + 1, q9, hlti, by go_num, rfl, Lib.hid (by rw [hl2.out]), HO9.out, HB9.out⟩
              case measure => simp [intOf]; omega
            · have hqk' : ¬ (q : Int) = (k : Int) := by omega
              have HZ0 := Lib.hid (show NewI wr.heap.size (wr.heap.size + 1) (wr.alloc O) (some ⟨wr.heap.size, 0, none⟩) ((List.range n).map (wtF s k i)) from by
                have h := HR0.out.newI (lo := wr.heap.size) (hi := wr.heap.size + 1) (Nat.le_refl _) (Nat.lt_succ_self _)
                rw [show (List.range n).map (wtF s k i) = (List.range n).map (fun _ => (0 : Int)) from List.map_congr_left fun j _ => by
                  unfold wtF
                  rw [if_neg (fun h => hqk (HQ.out.symm.trans h.2.2))]]
                exact h)
              clear HR0
              go_wp2_with (at_builtin; refine wpList_append_path rfl _ _ rfl wo.heap.size wr _ a2 l2 c2 ((tabF n (wtF s k)).take i) ((List.range n).map (wtF s k i)) (some ⟨wr.heap.size, 0, none⟩) n n rfl HLt.out HO.out HW0.out (by have h := HZ0.out; exact h.mono (Nat.le_refl _) (by simp)) (by simp) (by simp only [World.size_alloc]; rfl) (by omega) hzi ?_)
              intro a9 q9 w9 hO9 hB9 hz9
              have HO9 := Lib.hid (show OwnP w9 wo.heap.size (.slice a9 (l2 + 1) q9) ((tabF n (wtF s k)).take (i + 1)) from by rw [HTk.out]; exact hO9)
              have HB9 := Lib.hid (HBi.out.trans ((HW0.out.mono hzi).trans hB9))
              clear hO9 hB9 hc0 hf0
              go_wp2
              go_roundw
              case rel => exact ⟨i + 1, a9, l2 + 1, q9, hlti, by go_num, rfl, Lib.hid (by rw [hl2.out]), HO9.out, HB9.out⟩
              case measure => simp [intOf]; omega
          · have hisz : ¬ (i : Int) < (s.size : Int) := by omega
            have hc0 : True := trivial
            have hf0 : True := trivial
            have HZ0 := Lib.hid (show NewI wr.heap.size (wr.heap.size + 1) (wr.alloc O) (some ⟨wr.heap.size, 0, none⟩) ((List.range n).map (wtF s k i)) from by
                have h := HR0.out.newI (lo := wr.heap.size) (hi := wr.heap.size + 1) (Nat.le_refl _) (Nat.lt_succ_self _)
                rw [show (List.range n).map (wtF s k i) = (List.range n).map (fun _ => (0 : Int)) from List.map_congr_left fun j _ => by
                  unfold wtF
                  rw [if_neg (fun h => his h.2.1)]]
                exact h)
            clear HR0 hR0
            go_wp2_with (at_builtin; refine wpList_append_path rfl _ _ rfl wo.heap.size wr _ a2 l2 c2 ((tabF n (wtF s k)).take i) ((List.range n).map (wtF s k i)) (some ⟨wr.heap.size, 0, none⟩) n n rfl HLt.out HO.out HW0.out (by have h := HZ0.out; exact h.mono (Nat.le_refl _) (by simp)) (by simp) (by simp only [World.size_alloc]; rfl) (by omega) hzi ?_)
            intro a9 q9 w9 hO9 hB9 hz9
            have HO9 := Lib.hid (show OwnP w9 wo.heap.size (.slice a9 (l2 + 1) q9) ((tabF n (wtF s k)).take (i + 1)) from by rw [HTk.out]; exact hO9)
            have HB9 := Lib.hid (HBi.out.trans ((HW0.out.mono hzi).trans hB9))
            clear hO9 hB9 hc0 hf0
            go_wp2
            go_roundw
            case rel => exact ⟨i + 1, a9, l2 + 1, q9, hlti, by go_num, rfl, Lib.hid (by rw [hl2.out]), HO9.out, HB9.out⟩
            case measure => simp [intOf]; omega
        · have hile : ¬ (i : Int) ≤ (s.size : Int) := by have := HN.out; omega
          have hP := HO.out.row
          rw [List.take_of_length_le (by rw [tabF_length]; omega)] at hP
          have HP := Lib.hid hP
          clear hP
          obtain rfl : n = l2 := by have := hl2.out; omega
          go_wp2_with (at_builtin; refine wpList_append_tabs rfl _ _ rfl w.heap.size (.slice a l c) l (hdsP n A C k) [⟨a2, n, c2⟩] rfl (by rw [hdsP_length]; exact hl.out) ((HT.out.1.below HBi.out (fun g hg => (HT.out.1.lt g hg).2)).alloc _) (some ⟨wr.heap.size, 0, none⟩) 1 1 rfl rfl (.inr ⟨_, 0, rfl, tabs_one _ ⟨a2, n, c2⟩⟩) (by omega) (by simp; omega) ?_)
          intro a9 q9 w9 hO9 hG9 hv9
          obtain ⟨A', C', L', U', hT9⟩ := HT.out.snoc hzw HBi.out HP.out _ hO9 hG9 (by simpa using hv9)
          have HT9 := Lib.hid hT9
          have HB9 := Lib.hid (HB.out.trans ((HBi.out.mono hzw).trans ((below1 wr (.cells #[.slice a2 n c2] 50)).mono (by omega) |>.trans (below_of_grown hG9 (fun g hg => (HT.out.1.lt g hg).1) (by simp; omega)))))
          clear hO9 hG9 hv9 hT9
          go_wp2
          go_roundw
          case rel => exact ⟨k + 1, a9, l + 1, q9, A', C', L', U', hlt, by go_num, rfl, Lib.hid (by rw [hl.out]), HT9.out, HB9.out⟩
          case measure => simp [intOf]; omega
    · obtain rfl : k = d := by omega
      have hr := HT.out.row
      have HR := Lib.hid hr
      have HLw := Lib.hid (wordT_length k s)
      have HWt := Lib.hid (show ((List.range k).map fun r => tabF n (wtF s r)) = wordT k s from by unfold wordT; rw [HN.out])
      clear hr
      go_wp2
      go_ret
      exact ⟨a, c, by rw [HLw.out, ← HR.out.1]; rfl, HB.out, by rw [← HWt.out]; exact HR.out.2⟩

end Go.Proofs.Ytknigggjnjkhbaa
