/-
  The program's walk over the words of a shuffle, in order: what (ways).each yields.
-/
import Derived.Test.YtdgkkcjjfpenpaaGreatDoorShuP
import Derived.Test.YtdgkkcjjfpenpaaGreatDoorMapV
import Derived.RangeFuncKeeps
import Derived.RangeFuncBox
import Derived.RangeFuncNested
import Derived.RangeFuncCalls
import Derived.RangeFuncLeaves
import Derived.RangeFuncFrom
import Derived.Shelf.Abstract
import Derived.WalkKit
import Derived.OwnWalkIn
import Derived.TacticsInMore
import Derived.LoopNIn
import Derived.LoopIn
import Derived.Laws.EntriesVeiled
namespace Go.Proofs.YtdgkkcjjfpenpaaGreatDoor
open Go.RowKit
open Go.WideAt Go.WideMaps Go.ChangeMaps Go.Maps
set_option linter.unusedVariables false

/-- a lookup with its second result -/
theorem MapP.run_look {w : World} {b n : Nat} {f : Pw → Option Int} (h : MapP w b n f) (s : Pw) (hs : SmP s) : (Instr.lookup 110 (.map (some b)) (pwV s) true).run Tryz.prog w = .ok (.tuple #[.int .i64 (nv (f s)), .bool (f s).isSome]) w := by
  obtain ⟨D, ⟨es, clock, hb, F, _, rfl⟩, hf⟩ := h
  rcases Maps.fit_look true keyP Tryz.underlying110 (zeroN w) hb F (keyP_mk hs) with ⟨hrun, _, hat⟩ | ⟨e0, y, _, _, hrun, hRv, hat, _⟩
  · have e := encN_none ((hf s hs).symm.trans (hat .nil))
    rw [e]
    exact hrun
  · obtain ⟨n', hv, rfl⟩ := nmR_inv hRv
    have e := encN_some ((hf s hs).symm.trans (hat .nil))
    rw [e]
    rw [hv] at hrun
    exact hrun
/-- its length: 0 if it holds nothing -/
theorem MapP.run_len {w : World} {b n : Nat} {f : Pw → Option Int} (h : MapP w b n f) (ty : TypeId) : ∃ c : Nat, (Builtin.len_ #[110] ty #[.map (some b)]).run Tryz.prog w = .ok (.int .i64 c) w ∧
    ((c = 0 ∧ ∀ p, SmP p → f p = none) ∨ (0 < c ∧ ∃ p, SmP p ∧ f p ≠ none)) := by
  have hM := h
  obtain ⟨D, hD, hf⟩ := h
  refine ⟨Maps.size D, hD.len Tryz.underlying110 ty, ?_⟩
  obtain ⟨w', hrun, r1, r2, r3⟩ := hD.range keyP Tryz.underlying110
  rcases r1.next keyP 0 with ⟨h0, hl, _⟩ | ⟨key, v, kl, y, w2, cnt', hkey, hlk, hv, hat, _, _, hlt, _⟩
  · refine .inl ⟨h0, fun p hp => ?_⟩
    obtain ⟨es, clock, hb, F, _, rfl⟩ := hD
    rcases Maps.fit_look true keyP Tryz.underlying110 (zeroN w) hb F (keyP_mk hp) with ⟨_, _, hat⟩ | ⟨e0, y, _, _, _, _, hat, _⟩
    · exact encN_none ((hf p hp).symm.trans (hat .nil))
    · have e := has_true_of_atKey hat
      rw [hl] at e
      cases e
  · obtain ⟨p, rfl, hp, rfl⟩ := keyP_inv hkey
    obtain ⟨x, rfl, rfl⟩ := nmR_inv hv
    refine .inr ⟨by omega, p, hp, ?_⟩
    have e := (hf p hp).symm.trans (hat .nil)
    rw [encN_some e]
    simp
theorem MapP.walks {w w' : World} {b n : Nat} {f : Pw → Option Int} (h : MapP w b n f) (hk : KeepsWalks w w') : MapP w' b n f := by
  obtain ⟨D, ⟨es, clock, hb, F, hl, rfl⟩, hf⟩ := h
  exact ⟨_, ⟨es, clock, hk.same b _ hb rfl, F, hl, rfl⟩, hf⟩
theorem walks_below {w w' : World} (h : Below w.heap.size w w') : KeepsWalks w w' := ⟨h.size, fun k o ho _ => (h.block k (Array.getElem?_eq_some_iff.1 ho).1).trans ho⟩
theorem grown_below {w w' : World} (h : Below w.heap.size w w') : w.grownBy w' none := ⟨h.os, h.tape, h.output, h.size, fun i hi _ => h.block i hi⟩

/-- a letter's word -/
def lt (i : Nat) : ByteArray := ⟨#[UInt8.ofNat (48 + i)]⟩
theorem lt_list (i : Nat) : (lt i).data.toList = [UInt8.ofNat (48 + i)] := rfl
/-- the words that go on from a beginning by m letters, each with its number -/
def eachL (v w : List UInt8) : Nat → ByteArray → List (ByteArray × Nat)
  | 0, beg => if shN v w beg.data.toList = 0 then [] else [(beg, shN v w beg.data.toList)]
  | m + 1, beg => eachL v w m (beg ++ lt 0) ++ eachL v w m (beg ++ lt 1) ++ eachL v w m (beg ++ lt 2)
theorem app_list (a b : ByteArray) : (a ++ b).data.toList = a.data.toList ++ b.data.toList := by
  simp
theorem eachL_none {v w : List UInt8} : ∀ {m : Nat} {beg : ByteArray}, (∀ u, shN v w (beg.data.toList ++ u) = 0) → eachL v w m beg = []
  | 0, beg, h => by
    have := h []
    rw [List.append_nil] at this
    rw [eachL, if_pos this]
  | m + 1, beg, h => by
    have h1 : ∀ i u, shN v w ((beg ++ lt i).data.toList ++ u) = 0 := fun i u => by
      rw [app_list, List.append_assoc]; exact h _
    rw [eachL, eachL_none (h1 0), eachL_none (h1 1), eachL_none (h1 2)]
    rfl
/-- the first i branches -/
def eachTo (v w : List UInt8) (m : Nat) (beg : ByteArray) : Nat → List (ByteArray × Nat)
  | 0 => []
  | i + 1 => eachTo v w m beg i ++ eachL v w m (beg ++ lt i)
theorem eachTo_3 (v w : List UInt8) (m : Nat) (beg : ByteArray) : eachTo v w m beg 3 = eachL v w (m + 1) beg := by
  rw [eachL, eachTo, eachTo, eachTo, eachTo, List.nil_append]
theorem eachTo_len (v w : List UInt8) (m : Nat) (beg : ByteArray) (i : Nat) (hi : i < 3) : (eachTo v w m beg i).length + (eachL v w m (beg ++ lt i)).length ≤ (eachL v w (m + 1) beg).length := by
  rw [← eachTo_3]
  have h : ∀ j, i + 1 ≤ j → (eachTo v w m beg (i + 1)).length ≤ (eachTo v w m beg j).length := by
    intro j hj
    induction j with
    | zero => omega
    | succ j ih =>
      rcases Nat.lt_or_ge (i + 1) (j + 1) with h | h
      · have := ih (by omega)
        have e : eachTo v w m beg (j + 1) = eachTo v w m beg j ++ eachL v w m (beg ++ lt j) := rfl
        rw [e, List.length_append]
        omega
      · obtain rfl : i = j := by omega
        exact Nat.le_refl _
  have := h 3 (by omega)
  rw [eachTo, List.length_append] at this
  exact this
theorem shN_self : ∀ (a b : List UInt8), 0 < shN a b (a ++ b)
  | [], [] => by simp [shN]
  | [], c :: b => by
    have := shN_self [] b
    simp only [List.nil_append] at this ⊢
    rw [shN]
    simp [this]
  | c :: a, b => by
    have := shN_self a b
    rw [List.cons_append, shN]
    simp only [List.head?_cons, if_true, List.tail_cons]
    omega
/-- where a map of ways holds something, some word goes on from the beginning -/
theorem ways_some {ks : List Pw} {f : Pw → Option Int} {T : Int} (h : WaysOk ks f T) (hs : ∀ p ∈ ks, SmP p) {p : Pw} (hp : SmP p) (hne : f p ≠ none) : 0 < sm ks f (phi (p.1.data.toList ++ p.2.data.toList)) := by
  have hk := h.sup p hp hne
  have h0 : ∀ k ∈ ks, 0 ≤ nv (f k) := h.nn hs
  have hx : 0 < nv (f p) := by
    cases e : f p with
    | none => exact absurd e hne
    | some x => have := h.pos p x hp e; simpa [nv] using this
  have hphi : 0 < phi (p.1.data.toList ++ p.2.data.toList) p := by
    unfold phi
    have := shN_self p.1.data.toList p.2.data.toList
    omega
  have : ∀ {l : List Pw}, (∀ k ∈ l, 0 ≤ nv (f k)) → p ∈ l → 0 < sm l f (phi (p.1.data.toList ++ p.2.data.toList)) := by
    intro l
    induction l with
    | nil => intro _ h; cases h
    | cons z l ih =>
      intro hl hm
      have h1 := sm_nonneg (φ := phi (p.1.data.toList ++ p.2.data.toList)) (ks := l) (f := f) (fun k hk => hl k (List.mem_cons_of_mem _ hk)) (fun k _ => phi_nonneg _ k)
      have h2 := Int.mul_nonneg (hl z (List.mem_cons_self ..)) (phi_nonneg (p.1.data.toList ++ p.2.data.toList) z)
      rcases List.mem_cons.1 hm with rfl | hm
      · have h3 := Int.mul_pos hx hphi
        unfold sm at h1 ⊢
        simp only [List.map_cons, List.sum_cons]
        omega
      · have h3 := ih (fun k hk => hl k (List.mem_cons_of_mem _ hk)) hm
        unfold sm at h3 ⊢
        simp only [List.map_cons, List.sum_cons]
        omega
  exact this h0 hk
/-- what is yielded: a word and its number -/
def encE (x : ByteArray × Nat) : Array Value := #[.string x.1, .int .i64 (x.2 : Int)]
set_option maxRecDepth 100000 in
set_option maxHeartbeats 4000000 in
theorem each_in (l : Nat) (ks : List Pw) (hnd : ks.Nodup) (hsm : ∀ p ∈ ks, SmP p) (hcl : ∀ c, ∀ p ∈ ks, ∀ i, i < 2 → hasI c i p → cutI i p ∈ ks) (he : (ByteArray.empty, ByteArray.empty) ∈ ks) (v w : List UInt8) (hvw : v.length + w.length ≤ 10) :
    ∀ (m : Nat) (beg : ByteArray), beg.size + m = v.length + w.length → ∀ (b : Nat) (f : Pw → Option Int), WaysOk ks f ((2 ^ beg.size : Nat) : Int) → (∀ u, sm ks f (phi u) = (shN v w (beg.data.toList ++ u) : Nat)) → (∃ p, SmP p ∧ f p ≠ none) →
    ∀ (J Jx : List (ByteArray × Nat) → World → Prop) (N : Nat), (eachL v w m beg).length ≤ N → (∀ q W1 W2, J q W1 → W1.grownBy W2 none → J q W2) →
    (∀ pre x W1, J pre W1 → pre.length < N → YieldAt Fence.wide (8 - 1) Tryz.prog l (encE x) W1 fun e W' => (e = .returned (.bool true) ∧ J (pre ++ [x]) W' ∧ KeepsWalks W1 W') ∨ (e = .returned (.bool false) ∧ Jx (pre ++ [x]) W')) →
    ∀ (W : World), MapP W b (2 ^ beg.size) f → J [] W →
    CallsIn Fence.wide 8 Tryz.prog 87 #[.map (some b), .string beg, .func (.yield l) #[] #[]] W fun e W' => (e = .returned (.bool true) ∧ J (eachL v w m beg) W' ∧ KeepsWalks W W') ∨ (e = .returned (.bool false) ∧ ∃ pre, Jx pre W') := by
  intro m
  induction m with
  | zero =>
    intro beg hm b f hok hfu hne J Jx N hN hJa hY W hM h0
    have hs0 : shN v w beg.data.toList ≠ 0 := by
      obtain ⟨p, hp, hne⟩ := hne
      have h1 := ways_some hok hsm hp hne
      rw [hfu] at h1
      have h2 : v.length + w.length = (beg.data.toList ++ (p.1.data.toList ++ p.2.data.toList)).length := Classical.byContradiction fun e => by rw [shN_len _ _ _ e] at h1; simp at h1
      rw [List.length_append] at h2
      have h3 : beg.data.toList.length = beg.size := rfl
      have h4 : p.1.data.toList ++ p.2.data.toList = [] := List.eq_nil_of_length_eq_zero (by omega)
      rw [h4, List.append_nil] at h1
      omega
    have hnum : nv (f (ByteArray.empty, ByteArray.empty)) = (shN v w beg.data.toList : Nat) := by
      have := hfu []
      rw [sm_phi_nil hnd he, List.append_nil] at this
      exact this
    have hsome : (f (ByteArray.empty, ByteArray.empty)).isSome = true := by
      cases e : f (ByteArray.empty, ByteArray.empty) with
      | none => rw [e] at hnum; simp [nv] at hnum; omega
      | some x => rfl
    have hL0 := hM.run_look (ByteArray.empty, ByteArray.empty) ⟨by decide, by decide⟩
    rw [hnum, hsome] at hL0
    have hE : eachL v w 0 beg = [(beg, shN v w beg.data.toList)] := by rw [eachL, if_neg hs0]
    rw [hE] at hN ⊢
    obtain ⟨x, hx⟩ : ∃ x, shN v w beg.data.toList = x := ⟨_, rfl⟩
    rw [hx] at hL0 ⊢
    have hL : (Instr.lookup 110 (.map (some b)) (.agg #[.string ⟨#[]⟩, .string ⟨#[]⟩]) true).run Tryz.prog W = .ok (.tuple #[.int .i64 (x : Int), .bool true]) W := hL0
    obtain ⟨fn, tmps, assign, body, hyl, hR⟩ := hY [] (beg, x) W h0 (by simp at hN ⊢; omega)
    dsimp only [encE] at hyl
    clear hL0 hY hJa h0 hM hfu hok hne hnd hsm hcl he hs0 hnum hsome hE hx
    refine callsIn_of_wp Tryz.func87 rfl trivial ?_ rfl
    simp only [Tryz.ntmps87, List.size_toArray, List.length_cons, List.length_nil, Nat.reduceAdd, Nat.reduceSub, Array.replicate_succ, Array.replicate_zero, List.push_toArray, List.append_toArray, List.nil_append, List.cons_append]
    gi_wp2
    refine hR.mono ?_
    rintro e W3 (⟨rfl, hJ3, hk3⟩ | ⟨rfl, hJx3⟩)
    · gi_wp2
      go_ret
      exact .inl ⟨rfl, hJ3, hk3⟩
    · gi_wp2
      go_ret
      exact .inr ⟨rfl, _, hJx3⟩
  | succ m ih =>
    intro beg hm b f hok hfu hne J Jx N hN hJa hY W hM h0
    have hnum : nv (f (ByteArray.empty, ByteArray.empty)) = 0 := by
      have := hfu []
      rw [sm_phi_nil hnd he, List.append_nil, shN_len _ _ _ (by have h3 : beg.data.toList.length = beg.size := rfl; omega)] at this
      simpa using this
    have hnone : f (ByteArray.empty, ByteArray.empty) = none := by
      cases e : f (ByteArray.empty, ByteArray.empty) with
      | none => rfl
      | some x =>
        have := hok.pos _ _ ⟨by decide, by decide⟩ e
        rw [e] at hnum
        simp [nv] at hnum
        omega
    have hL0 := hM.run_look (ByteArray.empty, ByteArray.empty) ⟨by decide, by decide⟩
    rw [hnum, hnone] at hL0
    have hL : (Instr.lookup 110 (.map (some b)) (.agg #[.string ⟨#[]⟩, .string ⟨#[]⟩]) true).run Tryz.prog W = .ok (.tuple #[.int .i64 0, .bool false]) W := hL0
    have hp10 : 2 ^ beg.size ≤ 2 ^ 10 := Nat.pow_le_pow_right (by omega) (by omega)
    have HAf := Lib.hid (fun (k : Nat) W hM => after_c ks hnd hsm (UInt8.ofNat (48 + k)) (lt k) (lt_list k) (hcl _) b (2 ^ beg.size) f _ hok (by omega) (by omega) W hM)
    have HM := Lib.hid hM
    have HJa := Lib.hid hJa
    have HY := Lib.hid hY
    have HIh := Lib.hid ih
    have HFu := Lib.hid hfu
    have HLen := Lib.hid hm
    have HTo := Lib.hid (fun i hi => Nat.le_trans (eachTo_len v w m beg i hi) hN)
    have HSm := Lib.hid hsm
    clear hL0 hY hJa hM hfu hok hne hnd hcl he hnum hnone ih hm hp10 hsm hN
    refine callsIn_of_wp Tryz.func87 rfl trivial ?_ rfl
    simp only [Tryz.ntmps87, List.size_toArray, List.length_cons, List.length_nil, Nat.reduceAdd, Nat.reduceSub, Array.replicate_succ, Array.replicate_zero, List.push_toArray, List.append_toArray, List.nil_append, List.cons_append]
    gi_wp2
    gi_loopw [23] (fun i wr => ∃ k : Nat, k ≤ 3 ∧ i = .int .i64 (k : Int) ∧ J (eachTo v w m beg k) wr ∧ KeepsWalks W wr) (fun i _ => ((3 : Int) - intOf i).toNat)
    case atStart => exact ⟨0, by omega, rfl, h0, KeepsWalks.refl _⟩
    case round =>
      obtain ⟨k, hk, rfl, hJ, hkw⟩ := hrel
      by_cases hlt : k = 3
      · subst hlt
        gi_wp2
        go_ret
        exact .inl ⟨rfl, by rw [← eachTo_3]; exact hJ, hkw⟩
      · have hk3 : k < 3 := by omega
        have hkI : (k : Int) < 3 := by omega
        have hTo := HTo.out k hk3
        have HJ := Lib.hid hJ
        have HKw := Lib.hid hkw
        have hk1 : IntKind.i64.wrap ((k : Int) + 1) = (k : Int) + 1 := IntWalk.i64_in _ (by omega)
        have HLw := Lib.hid (fun W => letterWord_c (k : Int) (by omega) (by omega) W)
        have hlw : letW (k : Int) = lt k := by
          unfold letW lt
          rw [show ((48 : Int) + (k : Int)).toNat = 48 + k by omega]
        rw [hlw] at HLw
        clear hJ hkw hlw hk
        gi_wp2_with (first
          | (refine ⟨trivial, ?_⟩; gi_at_call 91; refine (callsIn_wide.2 (HLw.out _)).mono ?_; rintro e w' ⟨rfl, rfl⟩)
          | fail)
        refine ⟨trivial, ?_⟩
        gi_at_call 93
        refine (callsIn_wide.2 (HAf.out k _ (HM.out.walks HKw.out))).mono ?_
        rintro e w9 ⟨b9, f9, rfl, hb9, hbb9, hm9, ho9, hs9⟩
        have HJ9 := Lib.hid (HJa.out _ _ _ HJ.out (grown_below hb9))
        have HK9 := Lib.hid (HKw.out.trans (walks_below hb9))
        have hfu9 : ∀ u, sm ks f9 (phi u) = (shN v w ((beg ++ lt k).data.toList ++ u) : Nat) := fun u => by
          rw [hs9, HFu.out, app_list, lt_list, List.append_assoc]
          rfl
        have hsz : (beg ++ lt k).size = beg.size + 1 := by simp [lt]; rfl
        obtain ⟨c, hlen, hcs⟩ := hm9.run_len 3
        have HFu9 := Lib.hid hfu9
        have HM9 := Lib.hid (show MapP w9 b9 (2 ^ (beg ++ lt k).size) f9 by rw [hsz, Nat.pow_succ, Nat.mul_comm]; exact hm9)
        have HO9 := Lib.hid (show WaysOk ks f9 ((2 ^ (beg ++ lt k).size : Nat) : Int) by rw [hsz, Nat.pow_succ, Nat.mul_comm]; simpa using ho9)
        have HSz := Lib.hid hsz
        clear hb9 hbb9 hm9 ho9 hs9 hfu9 hsz
        rcases hcs with ⟨rfl, hno⟩ | ⟨hc, hso⟩
        · have hE : eachL v w m (beg ++ lt k) = [] := eachL_none fun u => by
            have h1 := HFu9.out u
            have h2 : sm ks f9 (phi u) = 0 := by
              rw [← sm_none ks (phi u)]
              exact sm_congr fun p hp => by rw [hno p (HSm.out p hp)]
            rw [h2] at h1
            omega
          have HE := Lib.hid hE
          clear hno hE
          gi_wp2
          refine ⟨trivial, ?_⟩
          gi_wp2
          go_roundw
          case rel => exact ⟨k + 1, by omega, by go_num, by rw [eachTo, HE.out, List.append_nil]; exact HJ9.out, HK9.out⟩
          case measure => simp [intOf]; omega
        · have HNe := Lib.hid ((callsIn_wide.1 (HIh.out (beg ++ lt k) (by rw [HSz.out]; have := HLen.out; omega) b9 f9 HO9.out HFu9.out hso (fun q W => J (eachTo v w m beg k ++ q) W) (fun q W => Jx (eachTo v w m beg k ++ q) W) (N - (eachTo v w m beg k).length) (by omega)
            (fun q W1 W2 h hg => HJa.out _ _ _ h hg)
            (fun pre x W1 h hl => by
              obtain ⟨fn, tmps, assign, body, y1, y2⟩ := HY.out (eachTo v w m beg k ++ pre) x W1 h (by rw [List.length_append]; omega)
              exact ⟨fn, tmps, assign, body, y1, y2.mono fun e W' hr => by rw [List.append_assoc] at hr; exact hr⟩)
            w9 HM9.out (by rw [List.append_nil]; exact HJ9.out))).mono fun e W' h => show ∃ bb : Bool, e = .returned (.bool bb) ∧ ((bb = true ∧ J (eachTo v w m beg (k + 1)) W' ∧ KeepsWalks W W') ∨ (bb = false ∧ ∃ pre, Jx pre W')) from by
              rcases h with ⟨rfl, h1, h2⟩ | ⟨rfl, pre, h1⟩
              · exact ⟨true, rfl, .inl ⟨rfl, h1, HK9.out.trans h2⟩⟩
              · exact ⟨false, rfl, .inr ⟨rfl, _, h1⟩⟩)
          have hcI : (0 : Int) < (c : Int) := by omega
          have hcat : beg.size + (lt k).size ≤ 9223372036854775807 := by
            have h1 := HLen.out
            have h2 : (lt k).size = 1 := rfl
            omega
          clear hso
          gi_wp2_with (first
            | (refine ⟨trivial, ?_⟩; gi_at_call 87; refine (callsIn_wide.2 HNe.out).mono ?_; rintro e w7 ⟨bb, rfl, h7⟩)
            | fail)
          · rename_i hbb
            go_ret
            rcases h7 with ⟨rfl, _⟩ | ⟨rfl, h8⟩
            · cases hbb
            · exact .inr ⟨rfl, h8⟩
          · rename_i hbb
            rcases h7 with ⟨rfl, h8, h9⟩ | ⟨rfl, _⟩
            · exact ⟨⟨k + 1, by omega, by go_num, h8, h9⟩, by simp [intOf]; omega⟩
            · cases hbb
end Go.Proofs.YtdgkkcjjfpenpaaGreatDoor
