/-
  'for k, v := range m' over a map of the call's own, with a store at a key that is there, in the round.
-/
import Derived.Test.YtoeednnkadmjpaaDoorMapV
import Derived.Maps.RangeWalk
namespace Go.Proofs.YtoeednnkadmjpaaDoor
open Go.RowKit
open Go.WideElems (Fit rd rg pl rd_key rd_val rg_of other_key rd_mk rd_stay)
open Go.WideAt Go.WideMaps Go.ChangeMaps Go.Maps Go.MapKept Go.WideShapes

theorem set_filter_length {α : Type} (p : α → Bool) : ∀ (l : List α) (j : Nat) (x y : α), l[j]? = some x → p y = p x → ((l.set j y).filter p).length = (l.filter p).length
  | [], j, x, y, h, _ => by simp at h
  | a :: r, 0, x, y, h, e => by
    simp only [List.getElem?_cons_zero, Option.some.injEq] at h
    subst h
    simp only [List.set_cons_zero, List.filter_cons, e]
    split <;> simp
  | a :: r, j + 1, x, y, h, e => by
    have ih := set_filter_length p r j x y (by simpa using h) e
    simp only [List.set_cons_succ, List.filter_cons]
    split <;> simp [ih]

section
variable {H : Type} {P : Program} {k : TypeId} {R : Value → Option (DataW H × List MemPlace)} {w : World} {b r n : Nat} {D : DataW H} {left : Lit → Bool} {cnt : Nat}
/-- 'm[k] = v' in the round, at a key that is there: the loop goes on as it stood. -/
theorem ranges_store {t e : TypeId} (h : w.ranges P k R b r n D left cnt) (K : Keyed P k) (ht : P.underlying t = some (.map k e)) (hn : n < maxLen) {key val : Value} {kl : Lit} {d y0 : DataW H} {ps : List MemPlace}
    (hkey : keyOf P k key = some kl) (hv : R val = some (d, ps)) (hat : ∀ zd, D.atKey kl zd = y0) :
    ∃ w', (Instr.mapUpdate t (.map (some b)) key val).run P w = .ok () w' ∧ w'.ranges P k R b r n (D.put kl d) left cnt ∧ w.grownBy w' (some b) := by
  have hne := h.ne
  obtain ⟨es, clock, since, seen, c0, hb, F, hs, rfl, hr, hold, hc, hl1, hl2, hsc, hsk⟩ := h
  obtain ⟨es', clock', hrun, F', hput, _⟩ := Maps.fit_store (R' := R) K ht hb F (Nat.lt_of_le_of_lt hs hn) (fun _ _ _ _ hz => hz) hkey hv
  rcases K.find w hkey es.toList F.keys with ⟨h1, h2⟩ | ⟨j, e0, h1, h2, h3⟩
  · exfalso
    have hnone : ∀ zd, (DataW.map ((es.toList.map (rg P k R)).foldr DataW.insert [])).atKey kl zd = zd :=
      (atKey_sorted (es.toList.map (rg P k R)) (Maps.fit_rising K F) kl (K.key hkey)).1 (fun p hp e1 => by
        obtain ⟨x, hx, rfl⟩ := List.mem_map.1 hp
        obtain ⟨y, hy⟩ := F.reads x hx
        rw [rg_of hy] at e1
        exact h2 x hx (K.inj (e1 ▸ rd_key hy) hkey))
    have a1 := (hnone .nil).symm.trans (hat .nil)
    have a2 := (hnone (.agg [])).symm.trans (hat (.agg []))
    rw [← a2] at a1
    cases a1
  · have hj : es[j]? = some e0 := by simpa using h2
    have hjl : j < es.toList.length := (List.getElem?_eq_some_iff.1 h2).1
    have hrun2 : (Instr.mapUpdate t (.map (some b)) key val).run P w = .ok () (setBlock w b (.map (es.modify j (fun e' => { e' with key := key, val := val })) clock)) := by
      simp [Instr.mapUpdate, run_underlying ht, MapKept.run_getObj_map hb, K.check w false hkey, h1, hj, h3, K.stays w hkey, MapKept.run_setObj_map _ hb, Result.andThen, setBlock]
    rw [hrun] at hrun2
    have hw := Result.ok.inj hrun2
    have hbb : some (Obj.map es' clock') = some (Obj.map (es.modify j (fun e' => { e' with key := key, val := val })) clock) := by
      rw [← heap_setBlock_same hb (.map es' clock'), hw.2, heap_setBlock_same hb]
    obtain ⟨rfl, rfl⟩ : es' = es.modify j (fun e' => { e' with key := key, val := val }) ∧ clock' = clock := by simpa using hbb
    have hlist : (es.modify j (fun e' => { e' with key := key, val := val })).toList = es.toList.set j { e0 with key := key, val := val } := by rw [Array.toList_modify, modify_eq_set _ _ _ _ h2]
    have hmem0 : e0 ∈ es.toList := List.mem_of_getElem? h2
    have hkl0 : (rg P k R e0).1 = kl := by
      obtain ⟨y, hy⟩ := F.reads e0 hmem0
      rw [rg_of hy]
      have m1 := rd_key hy
      rw [h3, hkey] at m1
      exact (Option.some.inj m1).symm
    have hkl1 : (rg P k R { e0 with key := key, val := val }).1 = kl := by rw [rg_of (rd_mk hkey hv)]
    have who : ∀ x ∈ es.toList.set j { e0 with key := key, val := val }, x = { e0 with key := key, val := val } ∨ x ∈ es.toList := fun x hx => (List.mem_or_eq_of_mem_set hx).symm
    have hsize : (es.modify j (fun e' => { e' with key := key, val := val })).size = es.size := by simp
    refine ⟨_, hrun, ⟨_, _, since, seen, c0, heap_setBlock_same hb _, F', by rw [hsize]; exact hs, by rw [DataW.put_eq, hput], (heap_setBlock_other hb _ hne).trans hr, fun x hx => ?_, ?_, fun x hx => ?_, fun kl' hkl' => ?_, hsc, hsk⟩, ⟨rfl, rfl, rfl, by simp [setBlock], fun i _ hi => heap_setBlock_other hb _ (fun e => hi (by rw [e]))⟩⟩
    · rw [hlist] at hx
      rcases who x hx with rfl | hx
      · exact hold e0 hmem0
      · exact hold x hx
    · have e1 : ∀ a : Array MapEntry, (leftOf a seen).size = (a.toList.filter fun e => !seen.contains e.born).length := fun a => by
        unfold leftOf
        rw [← Array.toList_filter, Array.length_toList]
      rw [e1, hlist, set_filter_length _ _ j e0 { e0 with key := key, val := val } h2 rfl, ← e1, hc]
    · rw [hlist] at hx
      rcases who x hx with rfl | hx
      · rw [hkl1, ← hkl0]
        exact hl1 e0 hmem0
      · exact hl1 x hx
    · obtain ⟨x, hx, hxk⟩ := hl2 kl' hkl'
      rw [hlist]
      by_cases hxe : x.key = key
      · refine ⟨{ e0 with key := key, val := val }, List.mem_iff_getElem.2 ⟨j, by simpa using hjl, by simp⟩, ?_⟩
        rw [hkl1, ← hxk]
        obtain ⟨y, hy⟩ := F.reads x hx
        rw [rg_of hy]
        have m1 := rd_key hy
        rw [hxe, hkey] at m1
        exact Option.some.inj m1
      · obtain ⟨i, hi⟩ := List.getElem?_of_mem hx
        refine ⟨x, ?_, hxk⟩
        have hij : j ≠ i := fun e => by
          subst e
          rw [h2] at hi
          cases hi
          exact hxe h3
        exact List.mem_of_getElem? (i := i) (by rw [List.getElem?_set_ne hij]; exact hi)
end

theorem keyOf_string_inv {key : Value} {kl : Lit} (h : keyOf Tryd.prog 9 key = some kl) : ∃ s, key = .string s ∧ kl = .string s.data.toList ∧ s.size ≤ maxLen := by
  rw [keyOf_string Tryd.underlying9] at h
  unfold mapKey at h
  rw [Tryd.underlying9] at h
  cases key with
  | string s =>
    simp only at h
    split at h
    · rename_i hs
      exact ⟨s, rfl, (Option.some.inj h).symm, hs⟩
    · cases h
  | _ => simp at h

/-- a range over a map that holds f is under way; `left`: what is still to come -/
def RngV (w : World) (b r n : Nat) (f : ByteArray → Option (Int × Int)) (left : ByteArray → Bool) (cnt : Nat) : Prop :=
  ∃ (D : DataW Unit) (lf : Lit → Bool), w.ranges Tryd.prog 9 fracR b r n D lf cnt ∧ (∀ s, D.atKey (.string s.data.toList) .nil = encF (f s)) ∧ ∀ s, lf (.string s.data.toList) = left s
theorem RngV.mapV {w : World} {b r n : Nat} {f : ByteArray → Option (Int × Int)} {left : ByteArray → Bool} {cnt : Nat} (h : RngV w b r n f left cnt) : MapV w b n f := by
  obtain ⟨D, lf, h, hf, _⟩ := h
  exact ⟨D, h.owns, hf⟩
theorem RngV.left_eq {w : World} {b r n : Nat} {f : ByteArray → Option (Int × Int)} {left : ByteArray → Bool} {cnt : Nat} (h : RngV w b r n f left cnt) : w.rangeLeft b r = cnt := by
  obtain ⟨D, lf, h, _⟩ := h
  exact h.left_eq
theorem RngV.ne {w : World} {b r n : Nat} {f : ByteArray → Option (Int × Int)} {left : ByteArray → Bool} {cnt : Nat} (h : RngV w b r n f left cnt) : r ≠ b := by
  obtain ⟨D, lf, h, _⟩ := h
  exact h.ne
theorem RngV.lt {w : World} {b r n : Nat} {f : ByteArray → Option (Int × Int)} {left : ByteArray → Bool} {cnt : Nat} (h : RngV w b r n f left cnt) : r < w.heap.size := by
  obtain ⟨D, lf, h, _⟩ := h
  exact h.lt
theorem RngV.alloc {w : World} {b r n : Nat} {f : ByteArray → Option (Int × Int)} {left : ByteArray → Bool} {cnt : Nat} (h : RngV w b r n f left cnt) (o : Obj) : RngV (w.alloc o) b r n f left cnt := by
  obtain ⟨D, lf, h, hf, hl⟩ := h
  exact ⟨D, lf, h.alloc o, hf, hl⟩

section
variable {w : World} {ops : Array Oper} {rest : List Oper} {o : Oper} {a : Act} {Q : Exit → Act → World → Prop} {b r n : Nat} {f : ByteArray → Option (Int × Int)} {left : ByteArray → Bool} {cnt : Nat}
theorem wpList_rangeV (hg : o.guard = none) (m : Operand) (hop : o.op = Op.range 57 m) (hm : a.eval m = .map (some b)) (h : MapV w b n f)
    (hK : ∀ w' left cnt, RngV w' b w.heap.size n f left cnt → (∀ s : ByteArray, s.size ≤ maxLen → left s = false → f s = none) → w.grownBy w' none → w'.heap.size = w.heap.size + 1 → wpList Tryd.prog ops Q rest (a.put o.dst (.pointer (some ⟨w.heap.size, 0, none⟩))) w') :
    wpList Tryd.prog ops Q (o :: rest) a w := by
  have hM := h
  obtain ⟨D, hD, hf⟩ := h
  refine wpList_range_own w hg m _ hop 9 _ keyS Tryd.underlying57 fracR b n D hm hD fun w' hr hgw hs => ?_
  refine hK w' (fun s => Maps.has D (.string s.data.toList)) _ ⟨D, _, hr, hf, fun _ => rfl⟩ (fun s hs hl => ?_) hgw hs
  cases hfs : f s with
  | none => rfl
  | some p =>
    exfalso
    obtain ⟨es, clock, hb, F, _, rfl⟩ := hD
    rcases Maps.fit_look true keyS Tryd.underlying57 (zeroF w) hb F (keyOf_string_mk Tryd.underlying9 hs) with ⟨_, _, hat⟩ | ⟨e0, y, _, _, _, _, hat, _⟩
    · have e := encF_none ((hf s).symm.trans (hat .nil))
      rw [e] at hfs
      cases hfs
    · have e := has_true_of_atKey hat
      rw [e] at hl
      cases hl
theorem wpList_nextV (hg : o.guard = none) (it : Operand) (hop : o.op = Op.next it false) (hit : a.eval it = .pointer (some ⟨r, 0, none⟩)) (h : RngV w b r n f left cnt)
    (hDone : (∀ s, left s = false) → wpList Tryd.prog ops Q rest (a.put o.dst (.tuple #[.bool false])) w)
    (hMore : ∀ (s : ByteArray) (x d : Int) (w' : World) (cnt' : Nat), s.size ≤ maxLen → left s = true → f s = some (x, d) → RngV w' b r n f (fun z => left z && !decide (z = s)) cnt' → cnt' < cnt → w.grownBy w' (some r) → w'.heap.size = w.heap.size →
      (Instr.entry (.pointer (some ⟨r, 0, none⟩))).run Tryd.prog w' = .ok (.tuple #[.string s, .agg #[.int .i64 x, .int .i64 d]]) w' → wpList Tryd.prog ops Q rest (a.put o.dst (.tuple #[.bool true, .string s, .agg #[.int .i64 x, .int .i64 d]])) w') :
    wpList Tryd.prog ops Q (o :: rest) a w := by
  obtain ⟨D, lf, hR, hf, hl⟩ := h
  refine wpList_next_ranges w hg it hop 9 keyS fracR Value.string (fun p : Int × Int => .agg #[.int .i64 p.1, .int .i64 p.2]) (fun key kl hk => by obtain ⟨s, rfl, _⟩ := keyOf_string_inv hk; exact ⟨s, rfl⟩)
    (fun v y hv => by obtain ⟨n, d, rfl, _⟩ := fracR_inv hv; exact ⟨(n, d), rfl⟩) b r n D lf cnt hit hR (fun _ h0 => hDone fun s => by rw [← hl]; exact h0 _) fun s p kl y w' cnt' hkey hlk hv hat hrg hlt hgr hsz hen => ?_
  obtain ⟨s', es, rfl, hs⟩ := keyOf_string_inv hkey
  injection es with es
  subst es
  have hfs : f s = some (p.1, p.2) := by
    have e := (hf s).symm.trans (hat .nil)
    rw [fracR_mk] at hv
    have hv2 := congrArg Prod.fst (Option.some.inj hv)
    simp only at hv2
    rw [← hv2] at e
    exact encF_some e
  refine hMore s p.1 p.2 w' cnt' hs (by rw [← hl]; exact hlk) hfs ⟨D, _, hrg, hf, fun z => ?_⟩ hlt hgr hsz hen
  simp only
  rw [hl]
  by_cases e : z = s
  · subst e
    simp [WideAt.sameKey_self (show WideAt.IsKeyLit (.string z.data.toList) from trivial)]
  · rw [Maps.sameKey_ne (fun e1 => e (data_eq' (by injection e1)))]
    simp [e]
set_option maxRecDepth 100000 in
theorem RngV.run_put (h : RngV w b r n f left cnt) (hn : n < maxLen) (s : ByteArray) (hs : s.size ≤ maxLen) (hin : f s ≠ none) (p d : Int) :
    ∃ w', (Instr.mapUpdate 57 (.map (some b)) (.string s) (.agg #[.int .i64 p, .int .i64 d])).run Tryd.prog w = .ok () w' ∧ RngV w' b r n (setF f s (some (p, d))) left cnt ∧ w.grownBy w' (some b) := by
  obtain ⟨D, lf, hR, hf, hl⟩ := h
  have hat : ∃ y0, ∀ zd, D.atKey (.string s.data.toList) zd = y0 := by
    obtain ⟨es, clock, hb, F, _, rfl⟩ := hR.owns
    rcases Maps.fit_look true keyS Tryd.underlying57 (zeroF w) hb F (keyOf_string_mk Tryd.underlying9 hs) with ⟨_, _, hat⟩ | ⟨e0, y, _, _, _, _, hat, _⟩
    · exact absurd (encF_none ((hf s).symm.trans (hat .nil))) hin
    · exact ⟨_, hat⟩
  obtain ⟨y0, hat⟩ := hat
  obtain ⟨w', hrun, hR', hgr⟩ := ranges_store hR keyS Tryd.underlying57 hn (keyOf_string_mk Tryd.underlying9 hs) (fracR_mk p d) hat
  refine ⟨w', hrun, ⟨_, lf, hR', fun t => ?_, hl⟩, hgr⟩
  have hD : Maps.IsMap D := by obtain ⟨es, clock, _, _, _, e⟩ := hR.owns; exact ⟨_, e⟩
  unfold setF
  by_cases e : t = s
  · subst e
    rw [if_pos rfl, Maps.atKey_put_same hD (by trivial)]
    rfl
  · rw [if_neg e, Maps.atKey_put_other (fun h => e (data_eq' (by injection h)))]
    exact hf t
theorem wpList_putRngV (hg : o.guard = none) (m x v : Operand) (hop : o.op = Op.mapUpdate 57 m x v) (hm : a.eval m = .map (some b)) (h : RngV w b r n f left cnt) (hn : n < maxLen) (s : ByteArray) (hx : a.eval x = .string s) (hs : s.size ≤ maxLen) (hin : f s ≠ none) (p d : Int) (hv : a.eval v = .agg #[.int .i64 p, .int .i64 d])
    (hK : ∀ w', RngV w' b r n (setF f s (some (p, d))) left cnt → w.grownBy w' (some b) → wpList Tryd.prog ops Q rest (a.put o.dst undef) w') : wpList Tryd.prog ops Q (o :: rest) a w := by
  obtain ⟨w', hrun, r1, r2⟩ := h.run_put hn s hs hin p d
  refine wpList_plain hg fun K' hK' => ?_
  unfold Oper.wp
  simp [execOp, hop, hm, hx, hv, hrun, Result.andThen]
  exact hK' _ _ (hK w' r1 r2)
end
end Go.Proofs.YtoeednnkadmjpaaDoor
