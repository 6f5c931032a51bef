/-
  The program's shuffle as a function to range over: what it yields.
-/
import Derived.Test.YtjloadllckllpaaGreatDoorShuE
namespace Go.Proofs.YtjloadllckllpaaGreatDoor
open Go.RowKit
open Go.WideAt Go.WideMaps Go.ChangeMaps Go.Maps
set_option linter.unusedVariables false

theorem wordsFrom_c (bm : Nat) (beg : ByteArray) (w : World) :
    Calls Tryz.prog 52 #[.map (some bm), .string beg] w fun e w' => e = .returned (.func (.func 82) #[] #[.pointer (some ⟨w.heap.size, 0, none⟩), .pointer (some ⟨w.heap.size + 1, 0, none⟩)]) ∧ w' = (w.alloc (.cells #[.map (some bm)] 87)).alloc (.cells #[.string beg] 9) := by
  have hmf : ∀ (fn : Fn) (first cap : Array Value) (w : World), (Instr.makeFunc fn first cap).run Tryz.prog w = .ok (.func fn first cap) w := fun _ _ _ _ => rfl
  go_enter Tryz.func52, Tryz.ntmps52
  go_wp2
  go_ret
  exact ⟨rfl, rfl⟩
theorem shuffleOf_c (v w : ByteArray) (hv : v.size ≤ 8) (hw : w.size ≤ 8) (W : World) :
    Calls Tryz.prog 23 #[.string v, .string w] W fun e w' => ∃ bm p q, e = .returned (.func (.func 82) #[] #[.pointer (some ⟨p, 0, none⟩), .pointer (some ⟨q, 0, none⟩)]) ∧ Below W.heap.size W w' ∧
      MapP w' bm 1 (way0 v w) ∧ p < w'.heap.size ∧ q < w'.heap.size ∧ w'.cell? ⟨p, 0, none⟩ = some (.map (some bm)) ∧ w'.cell? ⟨q, 0, none⟩ = some (.string ⟨#[]⟩) := by
  have hmm := @run_makeMap Tryz.prog
  have hs0 : SmP (v, w) := ⟨show v.size ≤ maxLen by unfold maxLen; omega, show w.size ≤ maxLen by unfold maxLen; omega⟩
  go_enter Tryz.func23, Tryz.ntmps23
  go_wp2_with (first
    | (refine wpList_insP rfl _ _ _ rfl rfl (MapP.made _) (by decide) (v, w) rfl hs0 1 rfl ?_; intro w1 hM1 hg1)
    | (go_at_call 52; refine (wordsFrom_c _ _ _).mono ?_; rintro e w2 ⟨rfl, rfl⟩))
  go_ret
  have hB1 : Below W.heap.size W w1 := (below1 W _).trans (below_of_grown hg1 (fun g h => by cases h; omega) (by simp))
  refine ⟨_, _, _, rfl, hB1.trans ((below2 w1 _ _).mono hB1.size), (hM1.alloc _).alloc _, by simp; omega, by simp, ?_, ?_⟩
  · go_simp
  · go_simp
set_option maxRecDepth 100000 in
set_option maxHeartbeats 4000000 in
theorem words_stops (v w : ByteArray) (hvw : v.size + w.size ≤ 5) (bm p q : Nat) (w0 : World) (hM : MapP w0 bm 1 (way0 v w)) (hp : p < w0.heap.size) (hq : q < w0.heap.size) (c0 : w0.cell? ⟨p, 0, none⟩ = some (.map (some bm))) (c1 : w0.cell? ⟨q, 0, none⟩ = some (.string ⟨#[]⟩)) :
    SeqStopsK Fence.wide 8 Tryz.prog 82 #[.pointer (some ⟨p, 0, none⟩), .pointer (some ⟨q, 0, none⟩)] encE KeepsWalks (fun ys => ys = eachL v.data.toList w.data.toList (v.size + w.size) ByteArray.empty) (fun _ => True) (eachL v.data.toList w.data.toList (v.size + w.size) ByteArray.empty).length w0 := fun l J Jx W hW hA hAx hY hj => by
  have c0 := (hW.cell (p := ⟨p, 0, none⟩) hp).trans c0
  have c1 := (hW.cell (p := ⟨q, 0, none⟩) hq).trans c1
  have HE := Lib.hid (each_in l (grid v w) (grid_nodup v w) (grid_small (by omega) (by omega)) (fun c => grid_cut) (grid_e v w) v.data.toList w.data.toList (by show v.size + w.size ≤ 10; omega)
    (v.size + w.size) ByteArray.empty (by show 0 + (v.size + w.size) = v.size + w.size; omega) bm (way0 v w) (way0_ok v w (by omega) (by omega)) (fun u => way0_sm v w u) ⟨(v, w), grid_small (by omega) (by omega) _ (grid_0 v w), by simp [way0, putP]⟩
    J Jx _ (Nat.le_refl _) (fun q W1 W2 h hg => hA q W1 W2 none h hg (fun r e => by cases e)) (fun pre x W1 h hl => hY pre x W1 h hl) W (hM.below hW hM.lt) hj)
  clear hY hj hA hAx hM hW
  refine callsIn_of_wp Tryz.func82 rfl trivial ?_ rfl
  simp only [Tryz.ntmps82, List.size_toArray, List.length_cons, List.length_nil, Nat.reduceAdd, Nat.reduceSub, Array.replicate_succ, Array.replicate_zero, List.push_toArray, List.append_toArray, List.nil_append, List.cons_append]
  have HE2 := Lib.hid ((callsIn_wide.1 HE.out).mono fun e W' h => show ∃ bb : Bool, e = .returned (.bool bb) ∧ ((bb = true ∧ J (eachL v.data.toList w.data.toList (v.size + w.size) ByteArray.empty) W') ∨ (bb = false ∧ ∃ pre, Jx pre W')) from by
    rcases h with ⟨rfl, h1, _⟩ | ⟨rfl, h1⟩
    · exact ⟨true, rfl, .inl ⟨rfl, h1⟩⟩
    · exact ⟨false, rfl, .inr ⟨rfl, h1⟩⟩)
  gi_wp2_with (first
    | (refine ⟨trivial, ?_⟩; gi_at_call 83; refine (callsIn_wide.2 HE2.out).mono ?_; rintro e w7 ⟨bb, rfl, h7⟩)
    | fail)
  go_end0
  refine ⟨⟨_, rfl⟩, ?_⟩
  rcases h7 with ⟨_, h8⟩ | ⟨_, pre, h8⟩
  · exact .inl ⟨_, rfl, h8⟩
  · exact .inr ⟨pre, trivial, h8⟩
end Go.Proofs.YtjloadllckllpaaGreatDoor
