/-
  Lyndon words: plain mathematics. Two of them that rise make one; the factors of a word don't rise; a cut leaves two that rise. No program is named here.
-/
import Derived.Test.YtolbgdgoambliaaFacS
import Derived.Test.YtolbgdgoambliaaLy6
namespace Go.Proofs.Ytolbgdgoambliaa
open Go

theorem bl_front : ∀ (p a b : List UInt8), Op.bytesLess a b = true → Op.bytesLess (p ++ a) (p ++ b) = true
  | [], _, _, h => h
  | x :: p, a, b, h => by simp [Op.bytesLess, bl_front p a b h]
theorem bl_pre : ∀ (a c : List UInt8), c ≠ [] → Op.bytesLess a (a ++ c) = true
  | [], [], h => absurd rfl h
  | [], _ :: _, _ => rfl
  | x :: a, c, h => by simp [Op.bytesLess, bl_pre a c h]
theorem bl_split : ∀ (a b : List UInt8), Op.bytesLess a b = true → (∃ c, c ≠ [] ∧ b = a ++ c) ∨ ∀ x y, Op.bytesLess (a ++ x) (b ++ y) = true
  | [], [], h => by simp [Op.bytesLess] at h
  | [], y :: b, _ => .inl ⟨y :: b, by simp, rfl⟩
  | x :: a, [], h => by simp [Op.bytesLess] at h
  | x :: a, y :: b, h => by
    simp only [Op.bytesLess, Bool.or_eq_true, decide_eq_true_eq, Bool.and_eq_true, beq_iff_eq] at h
    rcases h with h | ⟨rfl, h⟩
    · right; intro u v; simp [Op.bytesLess, h]
    · rcases bl_split a b h with ⟨c, hc, rfl⟩ | h2
      · exact .inl ⟨c, hc, rfl⟩
      · right; intro u v; simp [Op.bytesLess, h2 u v]

/-- a Lyndon word, as a list: less than each of its proper ends -/
def Lyn (l : List UInt8) : Prop := l ≠ [] ∧ ∀ a b, a ≠ [] → b ≠ [] → l = a ++ b → Op.bytesLess l b = true
theorem lyn_cat {u v : List UInt8} (hu : Lyn u) (hv : Lyn v) (h : Op.bytesLess u v = true) : Lyn (u ++ v) := by
  have c1 : Op.bytesLess (u ++ v) v = true := by
    rcases bl_split u v h with ⟨c, hc, e⟩ | h2
    · have h3 := bl_front u v c (hv.2 u c hu.1 hc e)
      rw [← e] at h3
      exact h3
    · simpa using h2 v []
  refine ⟨by simp [hu.1], fun a b ha hb e => ?_⟩
  rcases List.append_eq_append_iff.1 e with ⟨c, e1, e2⟩ | ⟨c, e1, e2⟩
  · by_cases hc : c = []
    · subst hc
      simp only [List.nil_append] at e2
      rw [← e2]; exact c1
    · exact nl_trans _ _ _ c1 (hv.2 c b hc hb e2)
  · by_cases hc : c = []
    · subst hc
      simp only [List.nil_append] at e2
      rw [e2]; exact c1
    · rcases bl_split u c (hu.2 a c ha hc e1) with ⟨d, hd, e3⟩ | h2
      · have l1 := congrArg List.length e1
        have l2 := congrArg List.length e3
        simp only [List.length_append] at l1 l2
        have : 0 < a.length := List.length_pos_iff.2 ha
        omega
      · rw [e2]; exact h2 v v
theorem not_lyn : ∀ (n : Nat) (u : List UInt8), u.length ≤ n → u ≠ [] → ¬ Lyn u → ∃ a x, a ≠ [] ∧ u = a ++ x ∧ Lyn x ∧ Op.bytesLess x u = true
  | 0, u, h, h0, _ => by
    have : 0 < u.length := List.length_pos_iff.2 h0
    omega
  | n + 1, u, h, h0, hn => by
    have hex : ∃ a b, a ≠ [] ∧ b ≠ [] ∧ u = a ++ b ∧ Op.bytesLess u b = false := by
      refine Classical.byContradiction fun hc => hn ⟨h0, fun a b ha hb e => ?_⟩
      cases hl : Op.bytesLess u b with
      | true => rfl
      | false => exact absurd ⟨a, b, ha, hb, e, hl⟩ hc
    obtain ⟨a, b, ha, hb, e, hl⟩ := hex
    have hla : 0 < a.length := List.length_pos_iff.2 ha
    have le := congrArg List.length e
    rw [List.length_append] at le
    have hbu : Op.bytesLess b u = true := by
      cases h2 : Op.bytesLess b u with
      | true => rfl
      | false =>
        have := congrArg List.length (nl_tri _ _ hl h2)
        omega
    by_cases hB : Lyn b
    · exact ⟨a, b, ha, e, hB, hbu⟩
    · obtain ⟨a', x, ha', e', hx, hxb⟩ := not_lyn n b (by omega) hb hB
      exact ⟨a ++ a', x, by simp [ha], by rw [e, e', List.append_assoc], hx, nl_trans _ _ _ hxb hbu⟩
theorem cut_lyn {u v : List UInt8} (hu : u ≠ []) (hs : Lyn (u ++ v)) (hv : Lyn v) (hmax : ∀ a x, a ≠ [] → x ≠ [] → u = a ++ x → ¬ Lyn (x ++ v)) : Lyn u ∧ Op.bytesLess u v = true := by
  have h1 : Op.bytesLess (u ++ v) v = true := hs.2 u v hu hv.1 rfl
  have h2 : Op.bytesLess u v = true := nl_trans _ _ _ (bl_pre u v hv.1) h1
  refine ⟨Classical.byContradiction fun hn => ?_, h2⟩
  obtain ⟨a, x, ha, e, hx, hlt⟩ := not_lyn _ u (Nat.le_refl _) hu hn
  exact hmax a x ha hx.1 e (lyn_cat hx hv (nl_trans _ _ _ hlt h2))

theorem ext_list (s : ByteArray) (i j : Nat) : (s.extract i j).data.toList = (s.data.toList.drop i).take (j - i) := by
  rw [ByteArray.data_extract, Array.toList_extract]
theorem end_list (s : ByteArray) (i : Nat) : (endS s i).data.toList = s.data.toList.drop i := by
  unfold endS
  rw [ext_list, List.take_of_length_le (by rw [List.length_drop, size_list]; exact Nat.le_refl _)]
theorem lt_list (s t : ByteArray) : ltS s t = Op.bytesLess s.data.toList t.data.toList := by
  unfold ltS
  rw [ByteArray.toList_eq, ByteArray.toList_eq]
theorem lyn_is (s : ByteArray) : lynB s = true ↔ Lyn s.data.toList := by
  have hlen : s.data.toList.length = s.size := size_list s
  have e : lynB s = true ↔ 0 < s.size ∧ ∀ j, j < s.size → j = 0 ∨ ltS s (endS s j) = true := by
    simp [lynB, lynTo]
  rw [e]
  constructor
  · rintro ⟨h0, h⟩
    refine ⟨fun hn => by rw [hn] at hlen; simp at hlen; omega, fun a b ha hb e2 => ?_⟩
    have hla : 0 < a.length := List.length_pos_iff.2 ha
    have hlb : 0 < b.length := List.length_pos_iff.2 hb
    have l2 := congrArg List.length e2
    rw [List.length_append] at l2
    have h3 := (h a.length (by omega)).resolve_left (by omega)
    rw [lt_list, end_list, e2, List.drop_left] at h3
    rw [e2]; exact h3
  · rintro ⟨h0, h⟩
    refine ⟨by have : 0 < s.data.toList.length := List.length_pos_iff.2 h0; omega, fun j hj => ?_⟩
    by_cases hj0 : j = 0
    · exact .inl hj0
    · refine .inr ?_
      rw [lt_list, end_list]
      exact h (s.data.toList.take j) (s.data.toList.drop j) (fun hn => by have := congrArg List.length hn; rw [List.length_take, hlen] at this; simp only [List.length_nil] at this; omega) (fun hn => by have := congrArg List.length hn; rw [List.length_drop, hlen] at this; simp only [List.length_nil] at this; omega) (List.take_append_drop _ _).symm

/-- the factors make the word, are Lyndon words, and don't rise -/
theorem ext_join (s : ByteArray) (n : Nat) : s.extract 0 n ++ endS s n = s := by
  apply ByteArray.ext
  apply Array.toList_inj.1
  rw [ByteArray.data_append, Array.toList_append, end_list, ext_list]
  simp
theorem Facts.cat : ∀ {s : ByteArray} {fs : List ByteArray}, Facts s fs → ∀ e : ByteArray, fs.foldl (· ++ ·) e = e ++ s
  | _, _, .done s h => fun e => by rw [size_zero h]; simp
  | _, _, .more s n fs h1 h2 => fun e => by
    rw [List.foldl_cons, h2.cat, ByteArray.append_assoc, ext_join]
theorem Facts.lyn : ∀ {s : ByteArray} {fs : List ByteArray}, Facts s fs → ∀ f ∈ fs, lynB f = true ∧ f.size ≤ s.size
  | _, _, .done s h => fun f hf => by cases hf
  | _, _, .more s n fs h1 h2 => fun f hf => by
    rcases List.mem_cons.1 hf with rfl | hf
    · exact ⟨h1.2.2.1, by rw [ByteArray.size_extract]; omega⟩
    · have := h2.lyn f hf
      rw [endS_size] at this
      exact ⟨this.1, by omega⟩
theorem Facts.words {d : Int} : ∀ {w : ByteArray} {fs : List ByteArray}, Facts w fs → wordB d w.data.toList = true → ∀ f ∈ fs, wordB d f.data.toList = true
  | _, _, .done s h => fun _ f hf => by cases hf
  | _, _, .more s n fs h1 h2 => fun hw f hf => by
    have part : ∀ i j, wordB d (s.extract i j).data.toList = true := fun i j => by
      rw [ext_list]
      refine wordB_take ?_ _
      unfold wordB at hw ⊢
      rw [List.all_eq_true] at hw ⊢
      exact fun x hx => hw x (List.drop_subset _ _ hx)
    rcases List.mem_cons.1 hf with rfl | hf
    · exact part 0 n
    · exact h2.words (part n s.size) f hf
theorem Facts.falls : ∀ {s : ByteArray} {fs : List ByteArray}, Facts s fs → ∀ i (h : i + 1 < fs.length), ltS (fs[i]'(Nat.lt_of_succ_lt h)) fs[i + 1] = false
  | _, _, .done s h => fun i h => by simp at h
  | _, _, .more s n fs h1 h2 => fun i h => by
    cases i with
    | succ i =>
      have := h2.falls i (by simpa using h)
      simpa using this
    | zero =>
      cases h2 with
      | done _ h0 => simp at h
      | more _ m fs' h3 h4 =>
        simp only [List.getElem_cons_zero, Nat.zero_add, List.getElem_cons_succ]
        cases hl : ltS (s.extract 0 n) ((endS s n).extract 0 m) with
        | false => rfl
        | true =>
          rw [lt_list] at hl
          have hc := lyn_cat ((lyn_is _).1 h1.2.2.1) ((lyn_is _).1 h3.2.2.1) hl
          have e3 := h3.2.1
          rw [endS_size] at e3
          have e : (s.extract 0 (n + m)).data.toList = (s.extract 0 n).data.toList ++ ((endS s n).extract 0 m).data.toList := by
            rw [ext_list, ext_list, ext_list, end_list]
            simp only [List.drop_zero, Nat.sub_zero]
            exact List.take_add
          rw [← e] at hc
          have := h1.2.2.2 (n + m) (by have := h3.1; omega) (by have := h1.2.1; omega)
          rw [(lyn_is _).2 hc] at this
          cases this
/-- a cut leaves two Lyndon words that rise -/
theorem IsCut.two {s : ByteArray} {i : Nat} (h : IsCut s i) (hl : lynB s = true) : lynB (s.extract 0 i) = true ∧ lynB (endS s i) = true ∧ ltS (s.extract 0 i) (endS s i) = true := by
  obtain ⟨h1, h2, h3, h4⟩ := h
  have hj := congrArg (fun x : ByteArray => x.data.toList) (ext_join s i)
  simp only [ByteArray.data_append, Array.toList_append] at hj
  have hlen : s.data.toList.length = s.size := size_list s
  have hsz : (s.extract 0 i).data.toList.length = i := by rw [ext_list]; simp; omega
  have hs := (lyn_is s).1 hl
  rw [← hj] at hs
  have hr := cut_lyn (u := (s.extract 0 i).data.toList) (v := (endS s i).data.toList) (fun hn => by rw [hn] at hsz; simp at hsz; omega) hs ((lyn_is _).1 h3) (fun a x ha hx e hL => by
    have hla : 0 < a.length := List.length_pos_iff.2 ha
    have hlx : 0 < x.length := List.length_pos_iff.2 hx
    have l2 := congrArg List.length e
    rw [List.length_append, hsz] at l2
    have hd : (endS s a.length).data.toList = x ++ (endS s i).data.toList := by
      rw [end_list s a.length, ← hj, e, List.append_assoc, List.drop_left]
    rw [← hd] at hL
    have := h4 a.length (by omega) (by omega)
    rw [(lyn_is _).2 hL] at this
    cases this)
  exact ⟨(lyn_is _).2 hr.1, h3, by rw [lt_list]; exact hr.2⟩
end Go.Proofs.Ytolbgdgoambliaa
