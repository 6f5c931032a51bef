/-
  The model's way to turn a word round: the letters from the last to the first.
-/
import Derived.Test.YtllggcbogmooeaaDoorStrA
import Derived.Maps.AppendAt
namespace Go.Proofs.YtllggcbogmooeaaDoor
open Go.RowKit

theorem info_u8 : (Tryd.prog.info? 5).map (fun i => (i.zero, i.size, i.bytes)) = some (some (.int .u8 0), 1, 1) := by kernel_rfl
def cellsB (l : List UInt8) : List Value := l.map fun b => .int .u8 (b.toNat : Int)
/-- a value owns a row of bytes -/
def OwnB (w : World) (base : Nat) (v : Value) (l : List UInt8) : Prop := w.ownsRow base 5 1 v l.length (cellsB l)
theorem OwnB.form {w : World} {base : Nat} {v : Value} {l : List UInt8} (h : OwnB w base v l) : ∃ a c, v = .slice a l.length c := by
  rcases h.2 with ⟨rfl, h0⟩ | ⟨g, cap, cur, rfl, hbg, hg, hnc, hcm, hcs, htake⟩
  · exact ⟨none, 0, by rw [h0]⟩
  · exact ⟨_, _, rfl⟩
theorem OwnB.lt {w : World} {base : Nat} {v : Value} {l : List UInt8} (h : OwnB w base v l) : ∀ g, v.ownBlock = some g → base ≤ g ∧ g < w.heap.size := by
  intro g hg
  rcases h.2 with ⟨rfl, _⟩ | ⟨g', cap, cur, rfl, hbg, hh, hnc, hcm, hcs, htake⟩
  · cases hg
  · have e : g' = g := by simpa [Value.ownBlock] using hg
    subst e
    refine ⟨hbg, ?_⟩
    rcases Nat.lt_or_ge g' w.heap.size with hlt | hge
    · exact hlt
    · rw [Array.getElem?_eq_none hge] at hh; cases hh
theorem OwnB.empty {w : World} {base g : Nat} (h : w.heap[g]? = some (.cells #[] 5 (0, 0))) (hb : base ≤ g) : OwnB w base (.slice (some ⟨g, 0, none⟩) 0 0) [] :=
  ⟨rfl, .inr ⟨g, 0, #[], rfl, hb, h, Nat.le_refl _, Nat.zero_le _, rfl, rfl⟩⟩
/-- the bytes of such a row, as a text -/
theorem conv_own {w : World} {base : Nat} {v : Value} {l : List UInt8} (h : OwnB w base v l) : (convert 72 9 v).run Tryd.prog w = .ok (.string ⟨l.toArray⟩) w := by
  rcases h.2 with ⟨rfl, h0⟩ | ⟨g, cap, cur, rfl, hbg, hg, hnc, hcm, hcs, htake⟩
  · have e : l = [] := List.eq_nil_of_length_eq_zero h0
    subst e
    rw [run_convert_bytes_nil (P := Tryd.prog) w 72 5 Tryd.underlying72 Tryd.underlying5 0 0 9 Tryd.underlying9]
    rfl
  · have hx := run_convert_bytes_arg (P := Tryd.prog) w 72 5 Tryd.underlying72 Tryd.underlying5 g 0 l.length cap (l.map fun b => (b.toNat : Int)) (by simp) (fun i hi => by
      rw [Nat.zero_add, cell_of_row w g i cur _ _ hg]
      have e : (cur.toList.take (l.length * 1))[i]? = (cellsB l)[i]? := by rw [htake]
      rw [List.getElem?_take_of_lt (by omega), Array.getElem?_toList] at e
      rw [e]
      simp [cellsB, List.getD, List.getElem?_eq_getElem hi]) 9 Tryd.underlying9
    rw [hx]
    have e2 : (l.map fun b => (b.toNat : Int)).map (fun n => UInt8.ofNat n.toNat) = l := by
      rw [List.map_map]
      conv => rhs; rw [← List.map_id l]
      exact List.map_congr_left fun b _ => by simp
    simp only [strOfNums, e2]

/-- a word turned round -/
def revW (s : ByteArray) : ByteArray := ⟨s.data.toList.reverse.toArray⟩
theorem rev_step {s : ByteArray} {j : Nat} (h : j < s.size) : (s.data.toList.drop j).reverse = (s.data.toList.drop (j + 1)).reverse ++ [s[j]] := by
  rw [List.drop_eq_getElem_cons (by simpa using h), List.reverse_cons]
  rfl

set_option maxRecDepth 100000 in
set_option maxHeartbeats 4000000 in
theorem l02Turned_c (s : ByteArray) (hs : s.size ≤ 1048576) (w : World) :
    Calls Tryd.prog 33 #[.string s] w fun e w' => e = .returned (.string (revW s)) ∧ Below w.heap.size w w' := by
  obtain ⟨i0, hi0, hi1, hi2, hi3⟩ := info_parts info_u8
  go_enter Tryd.func33, Tryd.ntmps33
  go_wp2_with fail
  go_loopw [3, 4] (fun v vi wr => ∃ (m : Nat) (a : Option Addr) (l c : Nat), m ≤ s.size ∧ vi = .int .i64 ((m : Int) - 1) ∧ v = .slice a l c ∧ l = s.size - m ∧ OwnB wr w.heap.size (.slice a l c) (s.data.toList.drop m).reverse ∧ Below w.heap.size w wr) (fun _ vi _ => (intOf vi + 1).toNat)
  case atStart =>
    exact ⟨s.size, _, _, _, Nat.le_refl _, rfl, rfl, by simp, by
      have e : s.data.toList.drop s.size = [] := List.drop_eq_nil_of_le (by simp)
      rw [e]
      exact OwnB.empty (heap_alloc_new w _) (Nat.le_refl _), below1 _ _⟩
  case round =>
    obtain ⟨m, a, l, c, hm, rfl, rfl, hl, hO, hB⟩ := hrel
    have HO := Lib.hid hO
    have HB := Lib.hid hB
    have HL := Lib.hid hl
    have hz := hB.size
    clear hO hB hl
    rcases Nat.eq_zero_or_pos m with rfl | hpos
    · have hc := conv_own HO.out
      rw [List.drop_zero] at hc
      go_wp2
      go_ret
      exact ⟨rfl, HB.out⟩
    · obtain ⟨j, rfl⟩ : ∃ j, m = j + 1 := ⟨m - 1, by omega⟩
      have hj : j < s.size := by omega
      have e1 : (((j + 1 : Nat) : Int) - 1) = (j : Int) := by omega
      rw [e1]
      clear e1
      have HR := Lib.hid (rev_step hj)
      have hn : (s.data.toList.drop (j + 1)).reverse.length = s.size - (j + 1) := by simp
      have HN := Lib.hid hn
      clear hn
      have hown : (wr.alloc (.cells #[.int .u8 (s[j].toNat : Int)] 5)).ownsRow w.heap.size 5 1 (.slice a l c) (s.data.toList.drop (j + 1)).reverse.length (cellsB (s.data.toList.drop (j + 1)).reverse) := by
        have h := HO.out
        unfold OwnB at h
        exact h.alloc _
      have hnews : ∀ k u, ([.int .u8 (s[j].toNat : Int)] : List Value)[k]? = some u → (wr.alloc (.cells #[.int .u8 (s[j].toNat : Int)] 5)).cell? ((⟨wr.heap.size, 0, none⟩ : Addr).add k) = some u :=
        World.news_of_block (cs := #[.int .u8 (s[j].toNat : Int)]) (t := 5) (fr := (0, 0)) (heap_alloc_new wr _)
      have hone : ∀ u ∈ ([.int .u8 (s[j].toNat : Int)] : List Value), u.oneCell' = true := by simp [Value.oneCell']
      have hb1 : (s.data.toList.drop (j + 1)).reverse.length + 1 ≤ maxLen := by rw [HN.out]; unfold maxLen; omega
      have hb2 : ((s.data.toList.drop (j + 1)).reverse.length + 1) * 1 ≤ 140737488355328 := by rw [HN.out]; omega
      have hb3 : w.heap.size ≤ (wr.alloc (.cells #[.int .u8 (s[j].toNat : Int)] 5)).heap.size := by simp; omega
      have Hown := Lib.hid hown
      have Hnews := Lib.hid hnews
      have Hone := Lib.hid hone
      have Hb1 := Lib.hid hb1
      have Hb2 := Lib.hid hb2
      have Hb3 := Lib.hid hb3
      clear hown hnews hone hb1 hb2 hb3
      go_wp2_with (at_builtin; refine wpList_append_own_at _ rfl _ _ 72 rfl w.heap.size 5 i0 _ 1 1 Tryd.underlying72 hi0 hi1 hi2 hi3 rfl (by omega) (.slice a l c) _ _ rfl Hown.out ⟨wr.heap.size, 0, none⟩ 1 1 [.int .u8 (s[j].toNat : Int)] rfl rfl Hnews.out Hone.out Hb1.out Hb2.out Hb3.out ?_)
      intro v9 w9 hO9 hG9 _ _
      have hO9' : OwnB w9 w.heap.size v9 (s.data.toList.drop j).reverse := by
        rw [HR.out]
        unfold OwnB cellsB at *
        rw [List.map_append, show ((s.data.toList.drop (j + 1)).reverse ++ [s[j]]).length = s.size - (j + 1) + 1 from by simp]
        exact hO9
      have HB9 := Lib.hid (HB.out.trans (((below1 wr (.cells #[.int .u8 (s[j].toNat : Int)] 5)).mono hz).trans (below_of_grown (B := w.heap.size) hG9 (fun g h => (HO.out.lt g h).1) (by simp; omega))))
      obtain ⟨a9, c9, rfl⟩ := hO9'.form
      have HO9 := Lib.hid hO9'
      clear hO9 hO9' hG9
      go_wp2
      go_roundw
      case rel => exact ⟨j, a9, _, c9, by omega, rfl, rfl, by simp, by first | exact HO9.out | simpa using HO9.out, HB9.out⟩
      case measure => simp [intOf]
end Go.Proofs.YtllggcbogmooeaaDoor
