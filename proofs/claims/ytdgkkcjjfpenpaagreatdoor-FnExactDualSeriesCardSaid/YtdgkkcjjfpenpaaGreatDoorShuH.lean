/-
  A range over a function whose body may panic: the round passes the panic up to the iterator, the iterator to the statement.
  (The body neither returns nor jumps; the walk is at the function's own frame, whose number is known.)
  The program's shuffle as a function to range over, to a body that goes on or panics.
-/
import Derived.Test.YtdgkkcjjfpenpaaGreatDoorShuG
import Derived.RangeFuncFrom
import Derived.RangeFuncWrites
import Derived.RangeFuncLeaves
namespace Go.Proofs.YtdgkkcjjfpenpaaGreatDoor
open Go.RowKit
set_option linter.unusedVariables false

section
variable {F : Fence} {n : Nat} {P : Program} {f : FuncId}

/-- the frame of a function's own call -/
abbrev frameOf (f : FuncId) : Frame := { (default : Frame) with fn := f, kind := .normal, roundOf := none }
/-- code walked at the frame of one function -/
def WpAt (F : Fence) (n : Nat) (P : Program) (f : FuncId) (c : Code) (Q : Exit → Act → World → Prop) (a : Act) (w : World) : Prop :=
  ∀ (k : List Item) (cs : List Frame), F.room (cs.length + 1 + n) → ∃ e a' w', Q e a' w' ∧ ArrivesIn (Machine.fenced P F) P (lone ((frameOf f).atR a (.code c :: k)) cs w) (frameOf f) k cs e a' w'
theorem WpAt.of_in {c : Code} {Q : Exit → Act → World → Prop} {a : Act} {w : World} (hF : F.fn f) (hro : F.round = none) (h : c.wpIn F n P Q a w) : WpAt F n P f c Q a w :=
  fun k cs hr => h (frameOf f) k cs hro.symm hF hr
theorem WpAt.mono {c : Code} {Q Q' : Exit → Act → World → Prop} {a : Act} {w : World} (h : WpAt F n P f c Q a w) (hq : ∀ e a w, Q e a w → Q' e a w) : WpAt F n P f c Q' a w :=
  fun k cs hr => let ⟨e, a', w', q, r⟩ := h k cs hr; ⟨e, a', w', hq _ _ _ q, r⟩
theorem WpAt.seq {x y : Code} {Q : Exit → Act → World → Prop} {a : Act} {w : World} (hF : F.fn f) (h : WpAt F n P f x (Exit.then (WpAt F n P f y Q) Q) a w) : WpAt F n P f (.seq x y) Q a w := by
  intro k cs hr
  have h0 : (lone ((frameOf f).atR a (.code (.seq x y) :: k)) cs w).fenced P F := fenced_calm (fr := (frameOf f).atR a (.code (.seq x y) :: k)) hF hr rfl
  obtain ⟨e, a1, w1, hq, harr⟩ := h (.code y :: k) cs hr
  by_cases he : e = .normal
  · subst he
    obtain ⟨e2, a2, w2, hq2, harr2⟩ := hq k cs hr
    exact ⟨e2, a2, w2, hq2, .of_steps (.head h0 stepR_seq harr) harr2⟩
  · exact ⟨e, a1, w1, by cases e <;> first | exact absurd rfl he | exact hq, .of_steps (.one h0 stepR_seq) (.pass (x := .code y) rfl (fun _ _ => .inl he) harr)⟩
theorem WpAt.block {id : Nat} {c : Code} {Q : Exit → Act → World → Prop} {a : Act} {w : World} (hF : F.fn f) (h : WpAt F n P f c (fun e a w => (e = .normal ∧ Q .normal a w) ∨ (∃ ch, e = .panic ch ∧ Q (.panic ch) a w)) a w) : WpAt F n P f (.block id c) Q a w := by
  intro k cs hr
  have h0 : (lone ((frameOf f).atR a (.code (.block id c) :: k)) cs w).fenced P F := fenced_calm (fr := (frameOf f).atR a (.code (.block id c) :: k)) hF hr rfl
  obtain ⟨e, a1, w1, hq, harr⟩ := h (.inBlock id :: k) cs hr
  rcases hq with ⟨rfl, hq⟩ | ⟨ch, rfl, hq⟩
  · exact ⟨.normal, a1, w1, hq, .head h0 stepR_block (StepsIn.trans harr (.one (fenced_calm (fr := (frameOf f).atR a1 (.inBlock id :: k)) hF hr rfl) stepR_inBlock))⟩
  · exact ⟨.panic ch, a1, w1, hq, .of_steps (.one h0 stepR_block) harr⟩
/-- a function's contract out of the walk at its own frame -/
theorem callsIn_of_at {fn : Func} {c : Code} {args : Array Value} {w : World} {R : Ending → World → Prop} (hf : P.funcs[f]? = some fn) (hb : fn.body = some c) (hF : F.fn f)
    (h : WpAt F n P f c (bodyPostM F n P fn R) { tmps := args ++ Array.replicate (fn.ntmps - args.size) undef, defers := [] } w) : CallsIn F n P f args w R := by
  refine ⟨hF, fun cs hr => ?_⟩
  have hin : Frame.enter P f args .normal = (frameOf f).atR { tmps := args ++ Array.replicate (fn.ntmps - args.size) undef, defers := [] } [.code c] := by simp [Frame.enter, Frame.atR, hf, hb]
  rw [hin]
  obtain ⟨e, a', w', hq, harr⟩ := h [] cs hr
  have out : ∀ (u : FrameMode) (todo : List Item), LeavesInM F n P fn a'.tmps R a'.defers u w' →
      StepsIn (Machine.fenced P F) P (lone ((frameOf f).atR { tmps := args ++ Array.replicate (fn.ntmps - args.size) undef, defers := [] } [.code c]) cs w) (lone { (frameOf f).atR a' todo with mode := u } cs w') →
      ∃ e w' fr, R e w' ∧ ComesIn (Machine.fenced P F) P (lone ((frameOf f).atR { tmps := args ++ Array.replicate (fn.ntmps - args.size) undef, defers := [] } [.code c]) cs w) (lone fr cs w') e ∧ fr.fn = f ∧ fr.leaving P w' e := by
    intro u todo hl hs
    obtain ⟨e', w'', fr', hR, hs2, hfn, hlv⟩ := leaves_stepsInM a'.defers u w' { (frameOf f).atR a' todo with mode := u } cs rfl rfl rfl hf rfl hF hr hl
    exact ⟨e', w'', fr', hR, ComesIn.of_steps hs hs2, hfn, hlv⟩
  cases e with
  | normal => exact out .returning [] hq (StepsIn.trans harr (.one (fenced_calm (fr := (frameOf f).atR a' []) hF hr rfl) (stepR_end rfl)))
  | ret => obtain ⟨todo, hs⟩ := harr.1 rfl; exact out .returning todo hq hs
  | panic chain => obtain ⟨todo, hs⟩ := harr; exact out (.panicking chain) todo hq hs
  | exit id => exact hq.elim
  | goto l => exact hq.elim
  | outgrown => exact ⟨.outgrown, w', frameOf f, hq, harr.resolve_left (by simp), rfl, trivial⟩
/-- one round: its body comes to its end, or panics -/
theorem round_np {fn : Func} {l : Nat} {tmps : Array Value} {assign body : Code} {w : World} {R : Ending → World → Prop} (hF : F.fn f) (hf : P.funcs[f]? = some fn)
    (h : assign.wpIn (F.inRound l) n P (Exit.then (fun a1 w1 => ∃ w2, (Instr.beginRound l).run P w1 = .ok () w2 ∧ body.wpIn (F.inRound l) n P (fun e a w3 => (e = .normal ∧ ∃ v w4, (Instr.endRound l none).run P w3 = .ok v w4 ∧ R (.returned v) w4) ∨ (∃ ch, e = .panic ch ∧ a.defers = [] ∧ R (.panicked ch) w3)) a1 w2) (fun _ _ _ => False)) { tmps := tmps, defers := [] } w) :
    RoundIn F n P l f tmps assign body w R := by
  refine ⟨hF, fun c cs hr => ?_⟩
  obtain ⟨b, hb⟩ : ∃ b : Frame, b = { (default : Frame) with fn := f, kind := .normal, roundOf := some l } := ⟨_, rfl⟩
  have hbr : b.roundOf = some l := by rw [hb]
  have hbk : b.kind = .normal := by rw [hb]
  have hbf : b.fn = f := by rw [hb]
  have hst : Frame.round l f tmps assign body .normal = b.atR { tmps := tmps, defers := [] } [.code assign, .beginRound, .code body] := by rw [hb]; simp [Frame.round, Frame.atR]
  have hr' : (F.inRound l).room ((c :: cs).length + 1 + n) := hr
  have hF' : (F.inRound l).fn b.fn := hbf.symm ▸ hF
  clear hb
  obtain ⟨e, a1, w1, hq, harr⟩ := h b [.beginRound, .code body] (c :: cs) hbr hF' hr'
  rw [hst]
  cases e with
  | normal =>
    obtain ⟨w2, hbg, hbody⟩ := hq
    have s1 := StepsIn.trans harr (.one (fenced_calm (fr := b.atR a1 [.beginRound, .code body]) hF' hr' rfl) (stepR_beginRound hbr hbg))
    obtain ⟨e2, a2, w3, hq2, harr2⟩ := hbody b [] (c :: cs) hbr hF' hr'
    rcases hq2 with ⟨rfl, v, w4, hend, hR⟩ | ⟨ch, rfl, hd, hR⟩
    · exact ⟨.returned v, w4, hR, StepsIn.trans s1 (StepsIn.trans harr2 (.one (fenced_calm (fr := b.atR a2 []) hF' hr' rfl) (stepR_round_end hbr hbk hend)))⟩
    · obtain ⟨todo, hs⟩ := harr2
      have hlv : Frame.leaving P { b.atR a2 todo with mode := .panicking ch } w3 (.panicked ch) := ⟨rfl, hd, fn, by rw [show ({ b.atR a2 todo with mode := FrameMode.panicking ch } : Frame).fn = f from hbf]; exact hf⟩
      have hl : (lone { b.atR a2 todo with mode := .panicking ch } (c :: cs) w3).fenced P (F.inRound l) := fenced_leaving hF' hr' hlv
      exact ⟨.panicked ch, w3, hR, StepsIn.trans s1 (StepsIn.trans hs (.one hl (step_leave_panicked hlv)))⟩
  | exit id => exact hq.elim
  | goto t => exact hq.elim
  | ret => exact hq.elim
  | panic chain => exact hq.elim
  | outgrown => exact hq.elim
/-- the statement at the function's own frame -/
theorem WpAt.rangeFunc {g : Operand} {ps : Array Tmp} {assign body : Code} {Q : Exit → Act → World → Prop} {a : Act} {w : World} (hF : F.fn f) {l : Nat} {mark : List Deferred} {w1 w1' w2 : World} {d : Deferred} {f' : FuncId} {args : Array Value}
    (he : (Instr.enterLoop f a.tmps ps assign body none).run P w = .ok (l, mark) w1) (hres : (resolve a.eval (rangeCall g l) 0).run P w1 = .ok d w1') (hlead : ∀ h, Target.leads P w1' d.target d.args = some h → F.fn h)
    (hinv : (invoke d.target d.args).run P w1' = .ok (.enter f' args) w2) (hn : F.depth.isSome = true → 1 ≤ n)
    (hcall : CallsIn F (n - 1) P f' args w2 (fun e w3 => (∃ v w4, e = .returned v ∧ (Instr.endLoop l).run P w3 = .ok none w4 ∧ Q .normal { a with defers := mark ++ a.defers } w4) ∨ (∃ ch, e = .panicked ch ∧ Q (.panic ch) { a with defers := mark ++ a.defers } w3))) :
    WpAt F n P f (.rangeFunc g ps assign body) Q a w := by
  intro k cs hr
  have h0 : (lone ((frameOf f).atR a (.code (.rangeFunc g ps assign body) :: k)) cs w).fenced P F := by
    refine fenced_lone (.inl hF) (fun h hh => hlead h ?_) (Fence.room_le hr (by omega))
    have hev := Frame.eval_atR (frameOf f) a (.code (.rangeFunc g ps assign body) :: k)
    simp only [Frame.atR] at hev
    simp only [Frame.about, Frame.atR, he, hev, hres] at hh
    exact hh
  have hin := stepR_rangeFunc (P := P) (b := frameOf f) (a := a) (k := k) (cs := cs) (w := w) he hres hinv
  have hroom : F.room (((frameOf f).atR { a with defers := mark ++ a.defers } (.inRangeFunc l :: k) :: cs).length + 1 + (n - 1)) := Fence.room_enter hr hn
  obtain ⟨e, w3, fr, hR, hsteps, hfn, hlv⟩ := hcall.2 ((frameOf f).atR { a with defers := mark ++ a.defers } (.inRangeFunc l :: k) :: cs) hroom
  rcases hR with ⟨v, w4, rfl, hend, hq⟩ | ⟨ch, rfl, hq⟩
  · have hl : (lone fr ((frameOf f).atR { a with defers := mark ++ a.defers } (.inRangeFunc l :: k) :: cs) w3).fenced P F := fenced_leaving (hfn ▸ hcall.1) hroom hlv
    refine ⟨.normal, _, w4, hq, .head h0 hin (StepsIn.trans hsteps (.head hl ?_ (.one (fenced_calm (fr := (frameOf f).atR { a with defers := mark ++ a.defers } (.endRangeFunc l :: k)) hF hr rfl) (stepR_endRangeFunc hend))))⟩
    rw [← finish_atR_inRangeFunc l v]; exact step_leave_returned hlv
  · have hl : (lone fr ((frameOf f).atR { a with defers := mark ++ a.defers } (.inRangeFunc l :: k) :: cs) w3).fenced P F := fenced_leaving (hfn ▸ hcall.1) hroom hlv
    refine ⟨.panic ch, _, w3, hq, .inRangeFunc l :: k, .head h0 hin (StepsIn.trans hsteps (.one hl ?_))⟩
    rw [← Frame.raise_atR]; exact step_leave_panicked hlv
/-- what an iterator owes to a body that may panic: all is handed on, or the panic is passed up -/
def SeqStopsP {α : Type} (F : Fence) (n : Nat) (P : Program) (g : Nat) (lb : Array Value) (encs : α → Array Value) (Kp : World → World → Prop) (S Sp : List α → Prop) (N : Nat) (ch : List PanicEntry) (w : World) : Prop :=
  ∀ (l : Nat) (J Jp : List α → World → Prop) (W : World), Below w.heap.size w W → AbidesFrom W.heap.size J → AbidesFrom W.heap.size Jp →
    (∀ pre x W1, J pre W1 → pre.length < N → YieldAt F (n - 1) P l (encs x) W1 fun e W' => (e = .returned (.bool true) ∧ J (pre ++ [x]) W' ∧ Kp W1 W') ∨ (e = .panicked ch ∧ Jp (pre ++ [x]) W')) →
    J [] W →
    CallsIn F n P g (#[.func (.yield l) #[] #[]] ++ lb) W fun e W' => ((∃ v, e = .returned v) ∧ ∃ xs, S xs ∧ J xs W') ∨ (e = .panicked ch ∧ ∃ pre, Sp pre ∧ Jp pre W')
/-- how a body ends: it goes on, or it panics -/
def npPost {α : Type} (B : Nat) (Kp : World → World → Prop) (I Ip : List α → World → Prop) (ch : List PanicEntry) (xs : List α) (W : World) : Exit → Act → World → Prop
  | .normal, _, W' => KeepsFrom B W W' ∧ Kp W W' ∧ I xs W'
  | .panic c, a, W' => c = ch ∧ a.defers = [] ∧ KeepsFrom B W W' ∧ Ip xs W'
  | _, _, _ => False
theorem WpAt.range_np {α : Type} {g : Operand} {ps : Array Tmp} {assign body : Code} {Q : Exit → Act → World → Prop} {a : Act} {w : World} {fn : Func}
    (hF : F.fn f) (hf : P.funcs[f]? = some fn) (h1 : 1 ≤ n) {gf : Nat} {lb : Array Value} (hg : a.eval g = .func (.func gf) #[] lb) (hFg : F.fn gf) (eg : ∀ args w, (callFunc gf args).run P w = .ok (.enter gf args) w)
    {encs : α → Array Value} {Kp : World → World → Prop} {S Sp : List α → Prop} {N : Nat} {ch : List PanicEntry} {w0 : World} (hseq : SeqStopsP F (n - 1) P gf lb encs Kp S Sp N ch w0)
    (hKt : ∀ {A B C : World}, Kp A B → Kp B C → Kp A C) (hKb : ∀ (W : World) (l : Nat) (o o' : Obj), w.heap.size ≤ l → W.heap[l]? = some o → o.isCells = false → o.isWalk = false → Kp W (W.putObj l o')) (hb0 : Below w0.heap.size w0 w) (hps : ∀ x, (encs x).size = ps.size)
    (I Ip : List α → World → Prop) (hI : OwnFrom w.heap.size I) (hIp : OwnFrom w.heap.size Ip) (h0 : I [] w) (a1 : α → Act)
    (hassign : ∀ (l : Nat) (x : α) (W : World) (K : Act → World → Prop), K (a1 x) W → assign.wpIn (F.inRound l) (n - 1 - 1) P (Exit.then K (fun _ _ _ => False)) { tmps := (ps.zip (encs x)).foldl (fun t (p, v) => t.setIfInBounds p v) a.tmps, defers := [] } W)
    (hbody : ∀ (l : Nat) (pre : List α) (x : α) (W : World), I pre W → pre.length < N → body.wpIn (F.inRound l) (n - 1 - 1) P (npPost w.heap.size Kp I Ip ch (pre ++ [x]) W) (a1 x) W)
    (hdone : ∀ (D : Nat) (xs : List α) (W : World), w.heap.size ≤ D → S xs → I xs W → W.heap[D]? = some (.deferred (some [])) → Q .normal { a with defers := { target := .collected D, args := #[] } :: a.defers } W)
    (hpan : ∀ (D : Nat) (pre : List α) (W : World), w.heap.size ≤ D → Sp pre → Ip pre W → W.heap[D]? = some (.deferred (some [])) → Q (.panic ch) { a with defers := { target := .collected D, args := #[] } :: a.defers } W) :
    WpAt F n P f (.rangeFunc g ps assign body) Q a w := by
  obtain ⟨rc, hrc⟩ : ∃ rc : LoopState → Loop, rc = fun st => { state := st, pending := none, fn := f, tmps := a.tmps, params := ps, assign := assign, body := body, defers := w.heap.size } := ⟨_, rfl⟩
  have hps' : ∀ st x, (encs x).size = (rc st).params.size := fun st x => by rw [hrc]; exact hps x
  obtain ⟨W1, hW1⟩ : ∃ W1, (w.alloc (.deferred (some []))).alloc (.loop (rc .ready)) = W1 := ⟨_, rfl⟩
  have hz1 : W1.heap.size = w.heap.size + 2 := by rw [← hW1]; simp
  have hL : W1.heap[w.heap.size + 1]? = some (.loop (rc .ready)) := by
    rw [← hW1]; have h := World.alloc_heap_new (w.alloc (.deferred (some []))) (.loop (rc .ready)); rwa [World.size_alloc] at h
  have hD : W1.heap[w.heap.size]? = some (.deferred (some [])) := by rw [← hW1]; exact (Below.heap_alloc _ _ _ (by simp)).trans (World.alloc_heap_new w _)
  have hB : Below w0.heap.size w0 W1 := by rw [← hW1]; exact hb0.trans ((((Below.refl _ w).alloc (Nat.le_refl _) _).alloc (by simp) _).mono hb0.size)
  have hI1 : I [] W1 := by rw [← hW1]; exact hI.alloc _ (hI.alloc _ h0)
  have hrow : ∀ {A B : World} {row : Option Nat}, (∀ r, row = some r → W1.heap.size ≤ r ∧ ∃ o : Obj, A.heap[r]? = some o ∧ o.isWalk = true) → (∀ r, row = some r → w.heap.size ≤ r ∧ ∃ o : Obj, A.heap[r]? = some o ∧ o.isCells = false) :=
    fun h r e => by obtain ⟨hb, o, ho, hw⟩ := h r e; exact ⟨by omega, o, ho, Obj.not_cells_of_walk hw⟩
  refine WpAt.rangeFunc hF (l := w.heap.size + 1) (mark := [{ target := .collected w.heap.size, args := #[] }]) (w1 := W1) (w1' := W1) (w2 := W1) (d := { target := .fn (.func gf) lb, args := #[.func (.yield (w.heap.size + 1)) #[] #[]] }) (f' := gf) (args := #[.func (.yield (w.heap.size + 1)) #[] #[]] ++ lb) ?_ ?_ ?_ ?_ (fun _ => h1) ?_
  · rw [← hW1, hrc]; exact run_enterLoop_outer _ _ _ _ _
  · simp only [resolve, hg]; simp [go_sem]
  · intro h e; simp [Target.leads] at e; subst e; exact hFg
  · simp [invoke, go_sem, eg]
  refine (hseq (w.heap.size + 1) (fun pre W => I pre W ∧ W.heap[w.heap.size + 1]? = some (.loop (rc .ready)) ∧ W.heap[w.heap.size]? = some (.deferred (some []))) (fun pre W => Ip pre W ∧ W.heap[w.heap.size]? = some (.deferred (some []))) W1 hB
    (fun s A B row hs hg' hr => ⟨hI s A B row hs.1 hg' (hrow (B := B) hr), (grownBy_keeps hg' (fun r e => (hr r e).2) hs.2.1 rfl).trans hs.2.1, (grownBy_keeps hg' (fun r e => (hr r e).2) hs.2.2 rfl).trans hs.2.2⟩)
    (fun s A B row hs hg' hr => ⟨hIp s A B row hs.1 hg' (hrow (B := B) hr), (grownBy_keeps hg' (fun r e => (hr r e).2) hs.2 rfl).trans hs.2⟩) ?_ ⟨hI1, hL, hD⟩).mono ?_
  · rintro pre x W ⟨hi, hl, hk⟩ hlen
    have hlt : w.heap.size + 1 < W.heap.size := (Array.getElem?_eq_some_iff.1 hl).1
    obtain ⟨WB, hWB⟩ : ∃ WB, W.putObj (w.heap.size + 1) (.loop (rc .busy)) = WB := ⟨_, rfl⟩
    have hbg : (Instr.beginRound (w.heap.size + 1)).run P W = .ok () WB := by
      have h := run_beginRound (P := P) hl (by rw [hrc])
      rw [← hWB, hrc]; rw [hrc] at h; exact h
    have hlB : WB.heap[w.heap.size + 1]? = some (.loop (rc .busy)) := by rw [← hWB]; exact World.putObj_heap_same hlt
    have hkB : WB.heap[w.heap.size]? = some (.deferred (some [])) := by rw [← hWB]; exact (World.putObj_heap_other (by omega)).trans hk
    have hKB : Kp W WB := by rw [← hWB]; exact hKb _ _ _ _ (by omega) hl rfl rfl
    have hiB : I pre WB := by rw [← hWB]; exact hI.putObj _ hi (by omega) hl rfl
    have hy := run_yield (P := P) (args := encs x) hl (hps' .ready x)
    rw [hrc] at hy
    refine ⟨f, _, assign, body, hy, round_np hF hf (hassign _ x W _ ⟨WB, hbg, wpIn_mono (hbody _ pre x WB hiB hlen) ?_⟩)⟩
    rintro e a3 W3 hp
    cases e with
    | normal =>
      obtain ⟨hk3, hp3, hi3⟩ := hp
      have hl3 := hk3.same _ _ (by omega) hlB rfl
      have hd3 := hk3.same _ _ (by omega) hkB rfl
      have he := run_endRound (P := P) none hl3
      refine .inl ⟨rfl, _, _, he, .inl ⟨rfl, ⟨hI.putObj _ hi3 (by omega) hl3 rfl, ?_, (World.putObj_heap_other (by omega)).trans hd3⟩, hKt (hKt hKB hp3) (hKb _ _ _ _ (by omega) hl3 rfl rfl)⟩⟩
      refine (World.putObj_heap_same (Array.getElem?_eq_some_iff.1 hl3).1).trans ?_
      rw [hrc]; rfl
    | panic c =>
      obtain ⟨rfl, hd, hk3, hi3⟩ := hp
      exact .inr ⟨_, rfl, hd, .inr ⟨rfl, hi3, hk3.same _ _ (by omega) hkB rfl⟩⟩
    | ret => exact hp.elim
    | exit id => exact hp.elim
    | goto t => exact hp.elim
    | outgrown => exact hp.elim
  · rintro e W2 (⟨⟨v, rfl⟩, xs, hS, hi, hl, hk⟩ | ⟨rfl, pre, hSp, hi, hk⟩)
    · have he := run_endLoop (P := P) hl (by rw [hrc]; simp)
      exact .inl ⟨v, _, rfl, by rw [he, hrc], hdone _ xs _ (Nat.le_refl _) hS (hI.putObj _ hi (by omega) hl rfl) ((World.putObj_heap_other (by omega)).trans hk)⟩
    · exact .inr ⟨ch, rfl, hpan _ pre _ (Nat.le_refl _) hSp hi hk⟩
end
end Go.Proofs.YtdgkkcjjfpenpaaGreatDoor

namespace Go.Proofs.YtdgkkcjjfpenpaaGreatDoor
open Go.RowKit
open Go.WideAt Go.WideMaps Go.ChangeMaps Go.Maps
set_option linter.unusedVariables false

/-- maps and their walks that lie at or beyond B are kept -/
structure KwB (B : Nat) (W W' : World) : Prop where
  size : W.heap.size ≤ W'.heap.size
  same : ∀ (k : Nat) (o : Obj), B ≤ k → W.heap[k]? = some o → o.isWalk = true → W'.heap[k]? = some o
theorem KwB.of_walks {B : Nat} {W W' : World} (h : KeepsWalks W W') : KwB B W W' := ⟨h.size, fun k o _ h1 h2 => h.same k o h1 h2⟩
theorem KwB.refl (B : Nat) (W : World) : KwB B W W := ⟨Nat.le_refl _, fun _ _ _ h _ => h⟩
theorem KwB.trans {B : Nat} {X Y Z : World} (h : KwB B X Y) (k : KwB B Y Z) : KwB B X Z := ⟨Nat.le_trans h.size k.size, fun i o hB hi ho => k.same i o hB (h.same i o hB hi ho) ho⟩
theorem KwB.of_grown {B bs : Nat} {W W' : World} (hg : W.grownBy W' (some bs)) (hb : bs < B) : KwB B W W' := ⟨hg.size, fun k o hB hk _ => (hg.block k (Array.getElem?_eq_some_iff.1 hk).1 (fun e => by injection e with e; omega)).trans hk⟩
theorem MapP.keptFrom {w w' : World} {b n B : Nat} {f : Pw → Option Int} (h : MapP w b n f) (hk : KwB B w w') (hB : B ≤ b) : MapP w' b n f := by
  obtain ⟨D, ⟨es, clock, hb, F, hl, rfl⟩, hf⟩ := h
  exact ⟨_, ⟨es, clock, hk.same b _ hB hb rfl, F, hl, rfl⟩, hf⟩
set_option maxRecDepth 100000 in
set_option maxHeartbeats 4000000 in
theorem each_in3 (ch : List PanicEntry) (B l : Nat) (ks : List Pw) (hnd : ks.Nodup) (hsm : ∀ p ∈ ks, SmP p) (hcl : ∀ c, ∀ p ∈ ks, ∀ i, i < 2 → hasI c i p → cutI i p ∈ ks) (he : (ByteArray.empty, ByteArray.empty) ∈ ks) (v w : List UInt8) (hvw : v.length + w.length ≤ 10) :
    ∀ (m : Nat) (beg : ByteArray), beg.size + m = v.length + w.length → ∀ (b : Nat) (f : Pw → Option Int), B ≤ b → WaysOk ks f ((2 ^ beg.size : Nat) : Int) → (∀ u, sm ks f (phi u) = (shN v w (beg.data.toList ++ u) : Nat)) → (∃ p, SmP p ∧ f p ≠ none) →
    ∀ (J Jx : List (ByteArray × Nat) → World → Prop) (N : Nat), (eachL v w m beg).length ≤ N → (∀ q W1 W2, J q W1 → W1.grownBy W2 none → J q W2) →
    (∀ pre x W1, J pre W1 → pre.length < N → pre ++ [x] <+: eachL v w m beg → YieldAt Fence.wide (8 - 1) Tryz.prog l (encE x) W1 fun e W' => (e = .returned (.bool true) ∧ J (pre ++ [x]) W' ∧ KwB B W1 W') ∨ (e = .panicked ch ∧ Jx (pre ++ [x]) W')) →
    ∀ (W : World), MapP W b (2 ^ beg.size) f → J [] W →
    CallsIn Fence.wide 8 Tryz.prog 87 #[.map (some b), .string beg, .func (.yield l) #[] #[]] W fun e W' => (e = .returned (.bool true) ∧ J (eachL v w m beg) W' ∧ KwB B W W') ∨ (e = .panicked ch ∧ ∃ pre, Jx pre W') := by
  intro m
  induction m with
  | zero =>
    intro beg hm b f hbB hok hfu hne J Jx N hN hJa hY W hM h0
    have hs0 : shN v w beg.data.toList ≠ 0 := by
      obtain ⟨p, hp, hne⟩ := hne
      have h1 := ways_some hok hsm hp hne
      rw [hfu] at h1
      have h2 : v.length + w.length = (beg.data.toList ++ (p.1.data.toList ++ p.2.data.toList)).length := Classical.byContradiction fun e => by rw [shN_len _ _ _ e] at h1; simp at h1
      rw [List.length_append] at h2
      have h3 : beg.data.toList.length = beg.size := rfl
      have h4 : p.1.data.toList ++ p.2.data.toList = [] := List.eq_nil_of_length_eq_zero (by omega)
      rw [h4, List.append_nil] at h1
      omega
    have hnum : nv (f (ByteArray.empty, ByteArray.empty)) = (shN v w beg.data.toList : Nat) := by
      have := hfu []
      rw [sm_phi_nil hnd he, List.append_nil] at this
      exact this
    have hsome : (f (ByteArray.empty, ByteArray.empty)).isSome = true := by
      cases e : f (ByteArray.empty, ByteArray.empty) with
      | none => rw [e] at hnum; simp [nv] at hnum; omega
      | some x => rfl
    have hL0 := hM.run_look (ByteArray.empty, ByteArray.empty) ⟨by decide, by decide⟩
    rw [hnum, hsome] at hL0
    have hE : eachL v w 0 beg = [(beg, shN v w beg.data.toList)] := by rw [eachL, if_neg hs0]
    have hmem : [] ++ [(beg, shN v w beg.data.toList)] <+: eachL v w 0 beg := by rw [hE]; exact List.prefix_refl _
    rw [hE] at hN ⊢
    obtain ⟨x, hx⟩ : ∃ x, shN v w beg.data.toList = x := ⟨_, rfl⟩
    rw [hx] at hL0 hmem ⊢
    have hL : (Instr.lookup 110 (.map (some b)) (.agg #[.string ⟨#[]⟩, .string ⟨#[]⟩]) true).run Tryz.prog W = .ok (.tuple #[.int .i64 (x : Int), .bool true]) W := hL0
    obtain ⟨fn, tmps, assign, body, hyl, hR⟩ := hY [] (beg, x) W h0 (by simp at hN ⊢; omega) hmem
    dsimp only [encE] at hyl
    clear hL0 hY hJa h0 hM hfu hok hne hnd hsm hcl he hs0 hnum hsome hE hx hmem
    refine callsIn_of_wp Tryz.func87 rfl trivial ?_ rfl
    simp only [Tryz.ntmps87, List.size_toArray, List.length_cons, List.length_nil, Nat.reduceAdd, Nat.reduceSub, Array.replicate_succ, Array.replicate_zero, List.push_toArray, List.append_toArray, List.nil_append, List.cons_append]
    gi_wp2
    refine hR.mono ?_
    rintro e W3 (⟨rfl, hJ3, hk3⟩ | ⟨rfl, hJx3⟩)
    · gi_wp2
      go_ret
      exact .inl ⟨rfl, hJ3, hk3⟩
    · exact ⟨rfl, .inr ⟨rfl, _, hJx3⟩⟩
  | succ m ih =>
    intro beg hm b f hbB hok hfu hne J Jx N hN hJa hY W hM h0
    have hnum : nv (f (ByteArray.empty, ByteArray.empty)) = 0 := by
      have := hfu []
      rw [sm_phi_nil hnd he, List.append_nil, shN_len _ _ _ (by have h3 : beg.data.toList.length = beg.size := rfl; omega)] at this
      simpa using this
    have hnone : f (ByteArray.empty, ByteArray.empty) = none := by
      cases e : f (ByteArray.empty, ByteArray.empty) with
      | none => rfl
      | some x =>
        have := hok.pos _ _ ⟨by decide, by decide⟩ e
        rw [e] at hnum
        simp [nv] at hnum
        omega
    have hL0 := hM.run_look (ByteArray.empty, ByteArray.empty) ⟨by decide, by decide⟩
    rw [hnum, hnone] at hL0
    have hL : (Instr.lookup 110 (.map (some b)) (.agg #[.string ⟨#[]⟩, .string ⟨#[]⟩]) true).run Tryz.prog W = .ok (.tuple #[.int .i64 0, .bool false]) W := hL0
    have hp10 : 2 ^ beg.size ≤ 2 ^ 10 := Nat.pow_le_pow_right (by omega) (by omega)
    have HAf := Lib.hid (fun (k : Nat) W hM => after_c ks hnd hsm (UInt8.ofNat (48 + k)) (lt k) (lt_list k) (hcl _) b (2 ^ beg.size) f _ hok (by omega) (by omega) W hM)
    have HM := Lib.hid hM
    have HJa := Lib.hid hJa
    have HY := Lib.hid hY
    have HIh := Lib.hid ih
    have HFu := Lib.hid hfu
    have HLen := Lib.hid hm
    have HTo := Lib.hid (fun i hi => Nat.le_trans (eachTo_len v w m beg i hi) hN)
    have HSm := Lib.hid hsm
    clear hL0 hY hJa hM hfu hok hne hnd hcl he hnum hnone ih hm hp10 hsm hN
    refine callsIn_of_wp Tryz.func87 rfl trivial ?_ rfl
    simp only [Tryz.ntmps87, List.size_toArray, List.length_cons, List.length_nil, Nat.reduceAdd, Nat.reduceSub, Array.replicate_succ, Array.replicate_zero, List.push_toArray, List.append_toArray, List.nil_append, List.cons_append]
    gi_wp2
    gi_loopw [23] (fun i wr => ∃ k : Nat, k ≤ 3 ∧ i = .int .i64 (k : Int) ∧ J (eachTo v w m beg k) wr ∧ KwB B W wr) (fun i _ => ((3 : Int) - intOf i).toNat)
    case atStart => exact ⟨0, by omega, rfl, h0, KwB.refl B _⟩
    case round =>
      obtain ⟨k, hk, rfl, hJ, hkw⟩ := hrel
      by_cases hlt : k = 3
      · subst hlt
        gi_wp2
        go_ret
        exact .inl ⟨rfl, by rw [← eachTo_3]; exact hJ, hkw⟩
      · have hk3 : k < 3 := by omega
        have hkI : (k : Int) < 3 := by omega
        have hTo := HTo.out k hk3
        have HJ := Lib.hid hJ
        have HKw := Lib.hid hkw
        have hk1 : IntKind.i64.wrap ((k : Int) + 1) = (k : Int) + 1 := IntWalk.i64_in _ (by omega)
        have HLw := Lib.hid (fun W => letterWord_c (k : Int) (by omega) (by omega) W)
        have hlw : letW (k : Int) = lt k := by
          unfold letW lt
          rw [show ((48 : Int) + (k : Int)).toNat = 48 + k by omega]
        rw [hlw] at HLw
        clear hJ hkw hlw hk
        gi_wp2_with (first
          | (refine ⟨trivial, ?_⟩; gi_at_call 91; refine (callsIn_wide.2 (HLw.out _)).mono ?_; rintro e w' ⟨rfl, rfl⟩)
          | fail)
        refine ⟨trivial, ?_⟩
        gi_at_call 93
        refine (callsIn_wide.2 (HAf.out k _ (HM.out.keptFrom HKw.out hbB))).mono ?_
        rintro e w9 ⟨b9, f9, rfl, hb9, hbb9, hm9, ho9, hs9⟩
        have hbB9 : B ≤ b9 := by have h1 := HM.out.lt; have h2 := HKw.out.size; omega
        have HJ9 := Lib.hid (HJa.out _ _ _ HJ.out (grown_below hb9))
        have HK9 := Lib.hid (HKw.out.trans (KwB.of_walks (walks_below hb9)))
        have hfu9 : ∀ u, sm ks f9 (phi u) = (shN v w ((beg ++ lt k).data.toList ++ u) : Nat) := fun u => by
          rw [hs9, HFu.out, app_list, lt_list, List.append_assoc]
          rfl
        have hsz : (beg ++ lt k).size = beg.size + 1 := by simp [lt]; rfl
        obtain ⟨c, hlen, hcs⟩ := hm9.run_len 3
        have HFu9 := Lib.hid hfu9
        have HM9 := Lib.hid (show MapP w9 b9 (2 ^ (beg ++ lt k).size) f9 by rw [hsz, Nat.pow_succ, Nat.mul_comm]; exact hm9)
        have HO9 := Lib.hid (show WaysOk ks f9 ((2 ^ (beg ++ lt k).size : Nat) : Int) by rw [hsz, Nat.pow_succ, Nat.mul_comm]; simpa using ho9)
        have HSz := Lib.hid hsz
        clear hb9 hbb9 hm9 ho9 hs9 hfu9 hsz
        rcases hcs with ⟨rfl, hno⟩ | ⟨hc, hso⟩
        · have hE : eachL v w m (beg ++ lt k) = [] := eachL_none fun u => by
            have h1 := HFu9.out u
            have h2 : sm ks f9 (phi u) = 0 := by
              rw [← sm_none ks (phi u)]
              exact sm_congr fun p hp => by rw [hno p (HSm.out p hp)]
            rw [h2] at h1
            omega
          have HE := Lib.hid hE
          clear hno hE
          gi_wp2
          refine ⟨trivial, ?_⟩
          gi_wp2
          go_roundw
          case rel => exact ⟨k + 1, by omega, by go_num, by rw [eachTo, HE.out, List.append_nil]; exact HJ9.out, HK9.out⟩
          case measure => simp [intOf]; omega
        · have HNe := Lib.hid ((callsIn_wide.1 (HIh.out (beg ++ lt k) (by rw [HSz.out]; have := HLen.out; omega) b9 f9 hbB9 HO9.out HFu9.out hso (fun q W => J (eachTo v w m beg k ++ q) W) (fun q W => Jx (eachTo v w m beg k ++ q) W) (N - (eachTo v w m beg k).length) (by omega)
            (fun q W1 W2 h hg => HJa.out _ _ _ h hg)
            (fun pre x W1 h hl hxm => by
              obtain ⟨fn, tmps, assign, body, y1, y2⟩ := HY.out (eachTo v w m beg k ++ pre) x W1 h (by rw [List.length_append]; omega) (eachTo_in hk3 hxm)
              exact ⟨fn, tmps, assign, body, y1, y2.mono fun e W' hr => by rw [List.append_assoc] at hr; exact hr⟩)
            w9 HM9.out (by rw [List.append_nil]; exact HJ9.out))).mono fun e W' h => show (e = .returned (.bool true) ∧ J (eachTo v w m beg (k + 1)) W' ∧ KwB B W W') ∨ (e = .panicked ch ∧ ∃ pre, Jx pre W') from by
              rcases h with ⟨rfl, h1, h2⟩ | ⟨rfl, pre, h1⟩
              · exact .inl ⟨rfl, h1, HK9.out.trans h2⟩
              · exact .inr ⟨rfl, _, h1⟩)
          have hcI : (0 : Int) < (c : Int) := by omega
          have hcat : beg.size + (lt k).size ≤ 9223372036854775807 := by
            have h1 := HLen.out
            have h2 : (lt k).size = 1 := rfl
            omega
          clear hso
          gi_wp2
          refine ⟨trivial, ?_⟩
          gi_at_call 87
          refine (callsIn_wide.2 HNe.out).mono ?_
          rintro e w7 (⟨rfl, h8, h9⟩ | ⟨rfl, h8⟩)
          · gi_wp2
            go_roundw
            case rel => exact ⟨k + 1, by omega, by go_num, h8, h9⟩
            case measure => simp [intOf]; omega
          · exact ⟨rfl, .inr ⟨rfl, h8⟩⟩

set_option maxRecDepth 100000 in
set_option maxHeartbeats 4000000 in
theorem words_stops3 (ch : List PanicEntry) (B : Nat) (v w : ByteArray) (hvw : v.size + w.size ≤ 5) (bm p q : Nat) (hBm : B ≤ bm) (w0 : World) (hM : MapP w0 bm 1 (way0 v w)) (hp : p < w0.heap.size) (hq : q < w0.heap.size) (c0 : w0.cell? ⟨p, 0, none⟩ = some (.map (some bm))) (c1 : w0.cell? ⟨q, 0, none⟩ = some (.string ⟨#[]⟩)) :
    SeqStopsP Fence.wide 8 Tryz.prog 86 #[.pointer (some ⟨p, 0, none⟩), .pointer (some ⟨q, 0, none⟩)] (fun x : Sw v w => encE x.1) (KwB B) (fun ys => ys.map (·.1) = eachL v.data.toList w.data.toList (v.size + w.size) ByteArray.empty) (fun ys => ys.map (·.1) <+: eachL v.data.toList w.data.toList (v.size + w.size) ByteArray.empty) (eachL v.data.toList w.data.toList (v.size + w.size) ByteArray.empty).length ch w0 := fun l J Jx W hW hA hAx hY hj => by
  have c0 := (hW.cell (p := ⟨p, 0, none⟩) hp).trans c0
  have c1 := (hW.cell (p := ⟨q, 0, none⟩) hq).trans c1
  have HE := Lib.hid (each_in3 ch B l (grid v w) (grid_nodup v w) (grid_small (by omega) (by omega)) (fun c => grid_cut) (grid_e v w) v.data.toList w.data.toList (by show v.size + w.size ≤ 10; omega)
    (v.size + w.size) ByteArray.empty (by show 0 + (v.size + w.size) = v.size + w.size; omega) bm (way0 v w) hBm (way0_ok v w (by omega) (by omega)) (fun u => way0_sm v w u) ⟨(v, w), grid_small (by omega) (by omega) _ (grid_0 v w), by simp [way0, putP]⟩
    (fun l W => ∃ l' : List (Sw v w), l'.map (·.1) = l ∧ J l' W) (fun l W => (∃ l' : List (Sw v w), l'.map (·.1) = l ∧ Jx l' W) ∧ l <+: eachL v.data.toList w.data.toList (v.size + w.size) ByteArray.empty) _ (Nat.le_refl _) (fun q W1 W2 ⟨l', h1, h2⟩ hg => ⟨l', h1, hA l' W1 W2 none h2 hg (fun r e => by cases e)⟩)
    (fun pre x W1 ⟨l', h1, h2⟩ hl hx => by
      obtain ⟨fn, tmps, assign, body, y1, y2⟩ := hY l' ⟨x, hx.subset (by simp)⟩ W1 h2 (by rw [← h1, List.length_map] at hl; exact hl)
      refine ⟨fn, tmps, assign, body, y1, y2.mono fun e W' hr => ?_⟩
      rcases hr with ⟨e1, e2, e3⟩ | ⟨e1, e2⟩
      · exact .inl ⟨e1, ⟨_, by rw [List.map_append, h1]; rfl, e2⟩, e3⟩
      · exact .inr ⟨e1, ⟨_, by rw [List.map_append, h1]; rfl, e2⟩, hx⟩) W (hM.below hW hM.lt) ⟨[], rfl, hj⟩)
  clear hY hj hA hAx hM hW
  refine callsIn_of_wp Tryz.func86 rfl trivial ?_ rfl
  simp only [Tryz.ntmps86, List.size_toArray, List.length_cons, List.length_nil, Nat.reduceAdd, Nat.reduceSub, Array.replicate_succ, Array.replicate_zero, List.push_toArray, List.append_toArray, List.nil_append, List.cons_append]
  have HE2 := Lib.hid ((callsIn_wide.1 HE.out).mono fun e W' h => show (e = .returned (.bool true) ∧ ∃ l' : List (Sw v w), l'.map (·.1) = eachL v.data.toList w.data.toList (v.size + w.size) ByteArray.empty ∧ J l' W') ∨ (e = .panicked ch ∧ ∃ pre : List (Sw v w), pre.map (·.1) <+: eachL v.data.toList w.data.toList (v.size + w.size) ByteArray.empty ∧ Jx pre W') from by
    rcases h with ⟨rfl, h1, _⟩ | ⟨rfl, h1⟩
    · exact .inl ⟨rfl, h1⟩
    · obtain ⟨_, ⟨l', h2, h3⟩, h4⟩ := h1
      exact .inr ⟨rfl, l', by rw [h2]; exact h4, h3⟩)
  gi_wp2
  refine ⟨trivial, ?_⟩
  gi_at_call 87
  refine (callsIn_wide.2 HE2.out).mono ?_
  rintro e w7 (⟨rfl, l', h9, h8⟩ | ⟨rfl, pre, h9, h8⟩)
  · gi_wp2
    go_end0
    exact .inl ⟨⟨_, rfl⟩, _, h9, h8⟩
  · exact ⟨rfl, .inr ⟨rfl, pre, h9, h8⟩⟩
end Go.Proofs.YtdgkkcjjfpenpaaGreatDoor
