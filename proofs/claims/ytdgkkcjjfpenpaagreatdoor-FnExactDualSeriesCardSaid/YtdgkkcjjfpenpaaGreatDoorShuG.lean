/-
  The program's shuffle as a function to range over: what it yields.
  The program's shuffle as a function to range over, to a body that may take it that each word handed on is one of the shuffle's.
-/
import Derived.Test.YtdgkkcjjfpenpaaGreatDoorShuE
namespace Go.Proofs.YtdgkkcjjfpenpaaGreatDoor
open Go.RowKit
open Go.WideAt Go.WideMaps Go.ChangeMaps Go.Maps
set_option linter.unusedVariables false

theorem wordsFrom_c (bm : Nat) (beg : ByteArray) (w : World) :
    Calls Tryz.prog 75 #[.map (some bm), .string beg] w fun e w' => e = .returned (.func (.func 86) #[] #[.pointer (some ⟨w.heap.size, 0, none⟩), .pointer (some ⟨w.heap.size + 1, 0, none⟩)]) ∧ w' = (w.alloc (.cells #[.map (some bm)] 110)).alloc (.cells #[.string beg] 9) := by
  have hmf : ∀ (fn : Fn) (first cap : Array Value) (w : World), (Instr.makeFunc fn first cap).run Tryz.prog w = .ok (.func fn first cap) w := fun _ _ _ _ => rfl
  go_enter Tryz.func75, Tryz.ntmps75
  go_wp2
  go_ret
  exact ⟨rfl, rfl⟩
theorem shuffleOf_c (v w : ByteArray) (hv : v.size ≤ 8) (hw : w.size ≤ 8) (W : World) :
    Calls Tryz.prog 57 #[.string v, .string w] W fun e w' => ∃ bm p q, e = .returned (.func (.func 86) #[] #[.pointer (some ⟨p, 0, none⟩), .pointer (some ⟨q, 0, none⟩)]) ∧ Below W.heap.size W w' ∧
      MapP w' bm 1 (way0 v w) ∧ p < w'.heap.size ∧ q < w'.heap.size ∧ w'.cell? ⟨p, 0, none⟩ = some (.map (some bm)) ∧ w'.cell? ⟨q, 0, none⟩ = some (.string ⟨#[]⟩) := by
  have hmm := @run_makeMap Tryz.prog
  have hs0 : SmP (v, w) := ⟨show v.size ≤ maxLen by unfold maxLen; omega, show w.size ≤ maxLen by unfold maxLen; omega⟩
  go_enter Tryz.func57, Tryz.ntmps57
  go_wp2_with (first
    | (refine wpList_insP rfl _ _ _ rfl rfl (MapP.made _) (by decide) (v, w) rfl hs0 1 rfl ?_; intro w1 hM1 hg1)
    | (go_at_call 75; refine (wordsFrom_c _ _ _).mono ?_; rintro e w2 ⟨rfl, rfl⟩))
  go_ret
  have hB1 : Below W.heap.size W w1 := (below1 W _).trans (below_of_grown hg1 (fun g h => by cases h; omega) (by simp))
  refine ⟨_, _, _, rfl, hB1.trans ((below2 w1 _ _).mono hB1.size), (hM1.alloc _).alloc _, by simp; omega, by simp, ?_, ?_⟩
  · go_simp
  · go_simp
set_option maxRecDepth 100000 in
set_option maxHeartbeats 4000000 in
theorem words_stops (v w : ByteArray) (hvw : v.size + w.size ≤ 5) (bm p q : Nat) (w0 : World) (hM : MapP w0 bm 1 (way0 v w)) (hp : p < w0.heap.size) (hq : q < w0.heap.size) (c0 : w0.cell? ⟨p, 0, none⟩ = some (.map (some bm))) (c1 : w0.cell? ⟨q, 0, none⟩ = some (.string ⟨#[]⟩)) :
    SeqStopsK Fence.wide 8 Tryz.prog 86 #[.pointer (some ⟨p, 0, none⟩), .pointer (some ⟨q, 0, none⟩)] encE KeepsWalks (fun ys => ys = eachL v.data.toList w.data.toList (v.size + w.size) ByteArray.empty) (fun _ => True) (eachL v.data.toList w.data.toList (v.size + w.size) ByteArray.empty).length w0 := fun l J Jx W hW hA hAx hY hj => by
  have c0 := (hW.cell (p := ⟨p, 0, none⟩) hp).trans c0
  have c1 := (hW.cell (p := ⟨q, 0, none⟩) hq).trans c1
  have HE := Lib.hid (each_in l (grid v w) (grid_nodup v w) (grid_small (by omega) (by omega)) (fun c => grid_cut) (grid_e v w) v.data.toList w.data.toList (by show v.size + w.size ≤ 10; omega)
    (v.size + w.size) ByteArray.empty (by show 0 + (v.size + w.size) = v.size + w.size; omega) bm (way0 v w) (way0_ok v w (by omega) (by omega)) (fun u => way0_sm v w u) ⟨(v, w), grid_small (by omega) (by omega) _ (grid_0 v w), by simp [way0, putP]⟩
    J Jx _ (Nat.le_refl _) (fun q W1 W2 h hg => hA q W1 W2 none h hg (fun r e => by cases e)) (fun pre x W1 h hl => hY pre x W1 h hl) W (hM.below hW hM.lt) hj)
  clear hY hj hA hAx hM hW
  refine callsIn_of_wp Tryz.func86 rfl trivial ?_ rfl
  simp only [Tryz.ntmps86, List.size_toArray, List.length_cons, List.length_nil, Nat.reduceAdd, Nat.reduceSub, Array.replicate_succ, Array.replicate_zero, List.push_toArray, List.append_toArray, List.nil_append, List.cons_append]
  have HE2 := Lib.hid ((callsIn_wide.1 HE.out).mono fun e W' h => show ∃ bb : Bool, e = .returned (.bool bb) ∧ ((bb = true ∧ J (eachL v.data.toList w.data.toList (v.size + w.size) ByteArray.empty) W') ∨ (bb = false ∧ ∃ pre, Jx pre W')) from by
    rcases h with ⟨rfl, h1, _⟩ | ⟨rfl, h1⟩
    · exact ⟨true, rfl, .inl ⟨rfl, h1⟩⟩
    · exact ⟨false, rfl, .inr ⟨rfl, h1⟩⟩)
  gi_wp2_with (first
    | (refine ⟨trivial, ?_⟩; gi_at_call 87; refine (callsIn_wide.2 HE2.out).mono ?_; rintro e w7 ⟨bb, rfl, h7⟩)
    | fail)
  go_end0
  refine ⟨⟨_, rfl⟩, ?_⟩
  rcases h7 with ⟨_, h8⟩ | ⟨_, pre, h8⟩
  · exact .inl ⟨_, rfl, h8⟩
  · exact .inr ⟨pre, trivial, h8⟩
end Go.Proofs.YtdgkkcjjfpenpaaGreatDoor

namespace Go.Proofs.YtdgkkcjjfpenpaaGreatDoor
open Go.RowKit
open Go.WideAt Go.WideMaps Go.ChangeMaps Go.Maps
set_option linter.unusedVariables false

theorem eachTo_pre (v w : List UInt8) (m : Nat) (beg : ByteArray) {k : Nat} (hk : k ≤ 3) : eachTo v w m beg k <+: eachL v w (m + 1) beg := by
  rw [← eachTo_3]
  have h : ∀ d k, k + d = 3 → eachTo v w m beg k <+: eachTo v w m beg 3 := by
    intro d
    induction d with
    | zero => intro k e; obtain rfl : k = 3 := by omega
              exact List.prefix_refl _
    | succ d ih =>
      intro k e
      refine List.IsPrefix.trans ?_ (ih (k + 1) (by omega))
      rw [eachTo]
      exact List.prefix_append _ _
  exact h (3 - k) k (by omega)
theorem eachTo_in {v w : List UInt8} {m k : Nat} {beg : ByteArray} {pre : List (ByteArray × Nat)} {x : ByteArray × Nat} (hk : k < 3) (h : pre ++ [x] <+: eachL v w m (beg ++ lt k)) : (eachTo v w m beg k ++ pre) ++ [x] <+: eachL v w (m + 1) beg := by
  refine List.IsPrefix.trans ?_ (eachTo_pre v w m beg (k := k + 1) hk)
  rw [eachTo, List.append_assoc]
  exact (List.prefix_append_right_inj _).2 h
set_option maxRecDepth 100000 in
set_option maxHeartbeats 4000000 in
theorem each_in2 (l : Nat) (ks : List Pw) (hnd : ks.Nodup) (hsm : ∀ p ∈ ks, SmP p) (hcl : ∀ c, ∀ p ∈ ks, ∀ i, i < 2 → hasI c i p → cutI i p ∈ ks) (he : (ByteArray.empty, ByteArray.empty) ∈ ks) (v w : List UInt8) (hvw : v.length + w.length ≤ 10) :
    ∀ (m : Nat) (beg : ByteArray), beg.size + m = v.length + w.length → ∀ (b : Nat) (f : Pw → Option Int), WaysOk ks f ((2 ^ beg.size : Nat) : Int) → (∀ u, sm ks f (phi u) = (shN v w (beg.data.toList ++ u) : Nat)) → (∃ p, SmP p ∧ f p ≠ none) →
    ∀ (J Jx : List (ByteArray × Nat) → World → Prop) (N : Nat), (eachL v w m beg).length ≤ N → (∀ q W1 W2, J q W1 → W1.grownBy W2 none → J q W2) →
    (∀ pre x W1, J pre W1 → pre.length < N → pre ++ [x] <+: eachL v w m beg → YieldAt Fence.wide (8 - 1) Tryz.prog l (encE x) W1 fun e W' => (e = .returned (.bool true) ∧ J (pre ++ [x]) W' ∧ KeepsWalks W1 W') ∨ (e = .returned (.bool false) ∧ Jx (pre ++ [x]) W')) →
    ∀ (W : World), MapP W b (2 ^ beg.size) f → J [] W →
    CallsIn Fence.wide 8 Tryz.prog 87 #[.map (some b), .string beg, .func (.yield l) #[] #[]] W fun e W' => (e = .returned (.bool true) ∧ J (eachL v w m beg) W' ∧ KeepsWalks W W') ∨ (e = .returned (.bool false) ∧ ∃ pre, Jx pre W') := by
  intro m
  induction m with
  | zero =>
    intro beg hm b f hok hfu hne J Jx N hN hJa hY W hM h0
    have hs0 : shN v w beg.data.toList ≠ 0 := by
      obtain ⟨p, hp, hne⟩ := hne
      have h1 := ways_some hok hsm hp hne
      rw [hfu] at h1
      have h2 : v.length + w.length = (beg.data.toList ++ (p.1.data.toList ++ p.2.data.toList)).length := Classical.byContradiction fun e => by rw [shN_len _ _ _ e] at h1; simp at h1
      rw [List.length_append] at h2
      have h3 : beg.data.toList.length = beg.size := rfl
      have h4 : p.1.data.toList ++ p.2.data.toList = [] := List.eq_nil_of_length_eq_zero (by omega)
      rw [h4, List.append_nil] at h1
      omega
    have hnum : nv (f (ByteArray.empty, ByteArray.empty)) = (shN v w beg.data.toList : Nat) := by
      have := hfu []
      rw [sm_phi_nil hnd he, List.append_nil] at this
      exact this
    have hsome : (f (ByteArray.empty, ByteArray.empty)).isSome = true := by
      cases e : f (ByteArray.empty, ByteArray.empty) with
      | none => rw [e] at hnum; simp [nv] at hnum; omega
      | some x => rfl
    have hL0 := hM.run_look (ByteArray.empty, ByteArray.empty) ⟨by decide, by decide⟩
    rw [hnum, hsome] at hL0
    have hE : eachL v w 0 beg = [(beg, shN v w beg.data.toList)] := by rw [eachL, if_neg hs0]
    have hmem : [] ++ [(beg, shN v w beg.data.toList)] <+: eachL v w 0 beg := by rw [hE]; exact List.prefix_refl _
    rw [hE] at hN ⊢
    obtain ⟨x, hx⟩ : ∃ x, shN v w beg.data.toList = x := ⟨_, rfl⟩
    rw [hx] at hL0 hmem ⊢
    have hL : (Instr.lookup 110 (.map (some b)) (.agg #[.string ⟨#[]⟩, .string ⟨#[]⟩]) true).run Tryz.prog W = .ok (.tuple #[.int .i64 (x : Int), .bool true]) W := hL0
    obtain ⟨fn, tmps, assign, body, hyl, hR⟩ := hY [] (beg, x) W h0 (by simp at hN ⊢; omega) hmem
    dsimp only [encE] at hyl
    clear hL0 hY hJa h0 hM hfu hok hne hnd hsm hcl he hs0 hnum hsome hE hx hmem
    refine callsIn_of_wp Tryz.func87 rfl trivial ?_ rfl
    simp only [Tryz.ntmps87, List.size_toArray, List.length_cons, List.length_nil, Nat.reduceAdd, Nat.reduceSub, Array.replicate_succ, Array.replicate_zero, List.push_toArray, List.append_toArray, List.nil_append, List.cons_append]
    gi_wp2
    refine hR.mono ?_
    rintro e W3 (⟨rfl, hJ3, hk3⟩ | ⟨rfl, hJx3⟩)
    · gi_wp2
      go_ret
      exact .inl ⟨rfl, hJ3, hk3⟩
    · gi_wp2
      go_ret
      exact .inr ⟨rfl, _, hJx3⟩
  | succ m ih =>
    intro beg hm b f hok hfu hne J Jx N hN hJa hY W hM h0
    have hnum : nv (f (ByteArray.empty, ByteArray.empty)) = 0 := by
      have := hfu []
      rw [sm_phi_nil hnd he, List.append_nil, shN_len _ _ _ (by have h3 : beg.data.toList.length = beg.size := rfl; omega)] at this
      simpa using this
    have hnone : f (ByteArray.empty, ByteArray.empty) = none := by
      cases e : f (ByteArray.empty, ByteArray.empty) with
      | none => rfl
      | some x =>
        have := hok.pos _ _ ⟨by decide, by decide⟩ e
        rw [e] at hnum
        simp [nv] at hnum
        omega
    have hL0 := hM.run_look (ByteArray.empty, ByteArray.empty) ⟨by decide, by decide⟩
    rw [hnum, hnone] at hL0
    have hL : (Instr.lookup 110 (.map (some b)) (.agg #[.string ⟨#[]⟩, .string ⟨#[]⟩]) true).run Tryz.prog W = .ok (.tuple #[.int .i64 0, .bool false]) W := hL0
    have hp10 : 2 ^ beg.size ≤ 2 ^ 10 := Nat.pow_le_pow_right (by omega) (by omega)
    have HAf := Lib.hid (fun (k : Nat) W hM => after_c ks hnd hsm (UInt8.ofNat (48 + k)) (lt k) (lt_list k) (hcl _) b (2 ^ beg.size) f _ hok (by omega) (by omega) W hM)
    have HM := Lib.hid hM
    have HJa := Lib.hid hJa
    have HY := Lib.hid hY
    have HIh := Lib.hid ih
    have HFu := Lib.hid hfu
    have HLen := Lib.hid hm
    have HTo := Lib.hid (fun i hi => Nat.le_trans (eachTo_len v w m beg i hi) hN)
    have HSm := Lib.hid hsm
    clear hL0 hY hJa hM hfu hok hne hnd hcl he hnum hnone ih hm hp10 hsm hN
    refine callsIn_of_wp Tryz.func87 rfl trivial ?_ rfl
    simp only [Tryz.ntmps87, List.size_toArray, List.length_cons, List.length_nil, Nat.reduceAdd, Nat.reduceSub, Array.replicate_succ, Array.replicate_zero, List.push_toArray, List.append_toArray, List.nil_append, List.cons_append]
    gi_wp2
    gi_loopw [23] (fun i wr => ∃ k : Nat, k ≤ 3 ∧ i = .int .i64 (k : Int) ∧ J (eachTo v w m beg k) wr ∧ KeepsWalks W wr) (fun i _ => ((3 : Int) - intOf i).toNat)
    case atStart => exact ⟨0, by omega, rfl, h0, KeepsWalks.refl _⟩
    case round =>
      obtain ⟨k, hk, rfl, hJ, hkw⟩ := hrel
      by_cases hlt : k = 3
      · subst hlt
        gi_wp2
        go_ret
        exact .inl ⟨rfl, by rw [← eachTo_3]; exact hJ, hkw⟩
      · have hk3 : k < 3 := by omega
        have hkI : (k : Int) < 3 := by omega
        have hTo := HTo.out k hk3
        have HJ := Lib.hid hJ
        have HKw := Lib.hid hkw
        have hk1 : IntKind.i64.wrap ((k : Int) + 1) = (k : Int) + 1 := IntWalk.i64_in _ (by omega)
        have HLw := Lib.hid (fun W => letterWord_c (k : Int) (by omega) (by omega) W)
        have hlw : letW (k : Int) = lt k := by
          unfold letW lt
          rw [show ((48 : Int) + (k : Int)).toNat = 48 + k by omega]
        rw [hlw] at HLw
        clear hJ hkw hlw hk
        gi_wp2_with (first
          | (refine ⟨trivial, ?_⟩; gi_at_call 91; refine (callsIn_wide.2 (HLw.out _)).mono ?_; rintro e w' ⟨rfl, rfl⟩)
          | fail)
        refine ⟨trivial, ?_⟩
        gi_at_call 93
        refine (callsIn_wide.2 (HAf.out k _ (HM.out.walks HKw.out))).mono ?_
        rintro e w9 ⟨b9, f9, rfl, hb9, hbb9, hm9, ho9, hs9⟩
        have HJ9 := Lib.hid (HJa.out _ _ _ HJ.out (grown_below hb9))
        have HK9 := Lib.hid (HKw.out.trans (walks_below hb9))
        have hfu9 : ∀ u, sm ks f9 (phi u) = (shN v w ((beg ++ lt k).data.toList ++ u) : Nat) := fun u => by
          rw [hs9, HFu.out, app_list, lt_list, List.append_assoc]
          rfl
        have hsz : (beg ++ lt k).size = beg.size + 1 := by simp [lt]; rfl
        obtain ⟨c, hlen, hcs⟩ := hm9.run_len 3
        have HFu9 := Lib.hid hfu9
        have HM9 := Lib.hid (show MapP w9 b9 (2 ^ (beg ++ lt k).size) f9 by rw [hsz, Nat.pow_succ, Nat.mul_comm]; exact hm9)
        have HO9 := Lib.hid (show WaysOk ks f9 ((2 ^ (beg ++ lt k).size : Nat) : Int) by rw [hsz, Nat.pow_succ, Nat.mul_comm]; simpa using ho9)
        have HSz := Lib.hid hsz
        clear hb9 hbb9 hm9 ho9 hs9 hfu9 hsz
        rcases hcs with ⟨rfl, hno⟩ | ⟨hc, hso⟩
        · have hE : eachL v w m (beg ++ lt k) = [] := eachL_none fun u => by
            have h1 := HFu9.out u
            have h2 : sm ks f9 (phi u) = 0 := by
              rw [← sm_none ks (phi u)]
              exact sm_congr fun p hp => by rw [hno p (HSm.out p hp)]
            rw [h2] at h1
            omega
          have HE := Lib.hid hE
          clear hno hE
          gi_wp2
          refine ⟨trivial, ?_⟩
          gi_wp2
          go_roundw
          case rel => exact ⟨k + 1, by omega, by go_num, by rw [eachTo, HE.out, List.append_nil]; exact HJ9.out, HK9.out⟩
          case measure => simp [intOf]; omega
        · have HNe := Lib.hid ((callsIn_wide.1 (HIh.out (beg ++ lt k) (by rw [HSz.out]; have := HLen.out; omega) b9 f9 HO9.out HFu9.out hso (fun q W => J (eachTo v w m beg k ++ q) W) (fun q W => Jx (eachTo v w m beg k ++ q) W) (N - (eachTo v w m beg k).length) (by omega)
            (fun q W1 W2 h hg => HJa.out _ _ _ h hg)
            (fun pre x W1 h hl hxm => by
              obtain ⟨fn, tmps, assign, body, y1, y2⟩ := HY.out (eachTo v w m beg k ++ pre) x W1 h (by rw [List.length_append]; omega) (eachTo_in hk3 hxm)
              exact ⟨fn, tmps, assign, body, y1, y2.mono fun e W' hr => by rw [List.append_assoc] at hr; exact hr⟩)
            w9 HM9.out (by rw [List.append_nil]; exact HJ9.out))).mono fun e W' h => show ∃ bb : Bool, e = .returned (.bool bb) ∧ ((bb = true ∧ J (eachTo v w m beg (k + 1)) W' ∧ KeepsWalks W W') ∨ (bb = false ∧ ∃ pre, Jx pre W')) from by
              rcases h with ⟨rfl, h1, h2⟩ | ⟨rfl, pre, h1⟩
              · exact ⟨true, rfl, .inl ⟨rfl, h1, HK9.out.trans h2⟩⟩
              · exact ⟨false, rfl, .inr ⟨rfl, _, h1⟩⟩)
          have hcI : (0 : Int) < (c : Int) := by omega
          have hcat : beg.size + (lt k).size ≤ 9223372036854775807 := by
            have h1 := HLen.out
            have h2 : (lt k).size = 1 := rfl
            omega
          clear hso
          gi_wp2_with (first
            | (refine ⟨trivial, ?_⟩; gi_at_call 87; refine (callsIn_wide.2 HNe.out).mono ?_; rintro e w7 ⟨bb, rfl, h7⟩)
            | fail)
          · rename_i hbb
            go_ret
            rcases h7 with ⟨rfl, _⟩ | ⟨rfl, h8⟩
            · cases hbb
            · exact .inr ⟨rfl, h8⟩
          · rename_i hbb
            rcases h7 with ⟨rfl, h8, h9⟩ | ⟨rfl, _⟩
            · exact ⟨⟨k + 1, by omega, by go_num, h8, h9⟩, by simp [intOf]; omega⟩
            · cases hbb

/-- a word of the shuffle, and its number -/
abbrev Sw (v w : ByteArray) : Type := { x : ByteArray × Nat // x ∈ eachL v.data.toList w.data.toList (v.size + w.size) ByteArray.empty }
set_option maxRecDepth 100000 in
set_option maxHeartbeats 4000000 in
theorem words_stops2 (v w : ByteArray) (hvw : v.size + w.size ≤ 5) (bm p q : Nat) (w0 : World) (hM : MapP w0 bm 1 (way0 v w)) (hp : p < w0.heap.size) (hq : q < w0.heap.size) (c0 : w0.cell? ⟨p, 0, none⟩ = some (.map (some bm))) (c1 : w0.cell? ⟨q, 0, none⟩ = some (.string ⟨#[]⟩)) :
    SeqStopsK Fence.wide 8 Tryz.prog 86 #[.pointer (some ⟨p, 0, none⟩), .pointer (some ⟨q, 0, none⟩)] (fun x : Sw v w => encE x.1) KeepsWalks (fun ys => ys.map (·.1) = eachL v.data.toList w.data.toList (v.size + w.size) ByteArray.empty) (fun ys => ys.map (·.1) <+: eachL v.data.toList w.data.toList (v.size + w.size) ByteArray.empty) (eachL v.data.toList w.data.toList (v.size + w.size) ByteArray.empty).length w0 := fun l J Jx W hW hA hAx hY hj => by
  have c0 := (hW.cell (p := ⟨p, 0, none⟩) hp).trans c0
  have c1 := (hW.cell (p := ⟨q, 0, none⟩) hq).trans c1
  have HE := Lib.hid (each_in2 l (grid v w) (grid_nodup v w) (grid_small (by omega) (by omega)) (fun c => grid_cut) (grid_e v w) v.data.toList w.data.toList (by show v.size + w.size ≤ 10; omega)
    (v.size + w.size) ByteArray.empty (by show 0 + (v.size + w.size) = v.size + w.size; omega) bm (way0 v w) (way0_ok v w (by omega) (by omega)) (fun u => way0_sm v w u) ⟨(v, w), grid_small (by omega) (by omega) _ (grid_0 v w), by simp [way0, putP]⟩
    (fun l W => ∃ l' : List (Sw v w), l'.map (·.1) = l ∧ J l' W) (fun l W => (∃ l' : List (Sw v w), l'.map (·.1) = l ∧ Jx l' W) ∧ l <+: eachL v.data.toList w.data.toList (v.size + w.size) ByteArray.empty) _ (Nat.le_refl _) (fun q W1 W2 ⟨l', h1, h2⟩ hg => ⟨l', h1, hA l' W1 W2 none h2 hg (fun r e => by cases e)⟩)
    (fun pre x W1 ⟨l', h1, h2⟩ hl hx => by
      obtain ⟨fn, tmps, assign, body, y1, y2⟩ := hY l' ⟨x, hx.subset (by simp)⟩ W1 h2 (by rw [← h1, List.length_map] at hl; exact hl)
      refine ⟨fn, tmps, assign, body, y1, y2.mono fun e W' hr => ?_⟩
      rcases hr with ⟨e1, e2, e3⟩ | ⟨e1, e2⟩
      · exact .inl ⟨e1, ⟨_, by rw [List.map_append, h1]; rfl, e2⟩, e3⟩
      · exact .inr ⟨e1, ⟨_, by rw [List.map_append, h1]; rfl, e2⟩, hx⟩) W (hM.below hW hM.lt) ⟨[], rfl, hj⟩)
  clear hY hj hA hAx hM hW
  refine callsIn_of_wp Tryz.func86 rfl trivial ?_ rfl
  simp only [Tryz.ntmps86, List.size_toArray, List.length_cons, List.length_nil, Nat.reduceAdd, Nat.reduceSub, Array.replicate_succ, Array.replicate_zero, List.push_toArray, List.append_toArray, List.nil_append, List.cons_append]
  have HE2 := Lib.hid ((callsIn_wide.1 HE.out).mono fun e W' h => show ∃ bb : Bool, e = .returned (.bool bb) ∧ ((bb = true ∧ ∃ l' : List (Sw v w), l'.map (·.1) = eachL v.data.toList w.data.toList (v.size + w.size) ByteArray.empty ∧ J l' W') ∨ (bb = false ∧ ∃ pre : List (Sw v w), pre.map (·.1) <+: eachL v.data.toList w.data.toList (v.size + w.size) ByteArray.empty ∧ Jx pre W')) from by
    rcases h with ⟨rfl, h1, _⟩ | ⟨rfl, h1⟩
    · exact ⟨true, rfl, .inl ⟨rfl, h1⟩⟩
    · obtain ⟨_, ⟨l', h2, h3⟩, h4⟩ := h1
      exact ⟨false, rfl, .inr ⟨rfl, l', by rw [h2]; exact h4, h3⟩⟩)
  gi_wp2_with (first
    | (refine ⟨trivial, ?_⟩; gi_at_call 87; refine (callsIn_wide.2 HE2.out).mono ?_; rintro e w7 ⟨bb, rfl, h7⟩)
    | fail)
  go_end0
  refine ⟨⟨_, rfl⟩, ?_⟩
  rcases h7 with ⟨_, l', h9, h8⟩ | ⟨_, pre, h9, h8⟩
  · exact .inl ⟨_, h9, h8⟩
  · exact .inr ⟨pre, h9, h8⟩
end Go.Proofs.YtdgkkcjjfpenpaaGreatDoor
