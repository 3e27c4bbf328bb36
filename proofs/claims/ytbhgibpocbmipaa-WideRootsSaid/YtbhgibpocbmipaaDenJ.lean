/-
  A region that draws its order: whatever the order, it comes to what its reading tells.
-/
import Derived.Test.YtbhgibpocbmipaaDenI
namespace Go.Den
open Go.RowKit
noncomputable section

section
variable {P : Program} {md : Region.Mode} {ops : Array Oper} {Q : Exit → Act → World → Prop}
theorem countP_lt {p q : Nat → Bool} (hpq : ∀ x, q x = true → p x = true) : ∀ {l : List Nat} {i : Nat}, i ∈ l → p i = true → q i = false → l.countP q < l.countP p
  | [], _, h, _, _ => by cases h
  | x :: l, i, h, hp, hq => by
    have hle : l.countP q ≤ l.countP p := List.countP_mono_left fun y _ => hpq y
    simp only [List.countP_cons]
    rcases List.mem_cons.1 h with rfl | h
    · simp [hp, hq]; omega
    · have := countP_lt hpq h hp hq
      by_cases hx : q x = true
      · simp [hx, hpq x hx]; omega
      · simp [hx]; split <;> omega
def unl (n : Nat) (listed : Array Bool) : Nat := (List.range n).countP fun j => !(listed.getD j true)
theorem wpAny_inv {Inv : Array Bool → Act → World → Prop} (hsize : ∀ l a w, Inv l a w → l.size = ops.size)
    (hstep : ∀ l a w i, Inv l a w → i ∈ Region.ready md ops l → wpOp P ops Q i (Inv (l.setIfInBounds i true)) a w)
    (hdone : ∀ l a w, Inv l a w → Region.ready md ops l = [] → Q .normal a w) :
    ∀ (fuel : Nat) (l : Array Bool) (a : Act) (w : World), unl ops.size l ≤ fuel → Inv l a w → wpAny P md ops Q fuel l a w
  | 0, l, a, w, hf, hI => by
    have hr : Region.ready md ops l = [] := by
      rw [List.eq_nil_iff_forall_not_mem]
      intro i hi
      obtain ⟨h1, o, h2, _⟩ := mem_ready.1 hi
      have hlt : i < ops.size := (Array.getElem?_eq_some_iff.1 h2).1
      have h0 : unl ops.size l = 0 := by omega
      unfold unl at h0
      rw [List.countP_eq_zero] at h0
      have := h0 i (List.mem_range.2 hlt)
      simp only [Array.getD_eq_getD_getElem?] at h1 this
      rw [h1] at this; simp at this
    exact ⟨hr, hdone l a w hI hr⟩
  | fuel + 1, l, a, w, hf, hI => by
    refine ⟨fun hr => hdone l a w hI hr, fun i hi => ?_⟩
    refine wpOp_mono (fun a' w' hI' => ?_) (hstep l a w i hI hi)
    refine wpAny_inv hsize hstep hdone fuel _ a' w' ?_ hI'
    obtain ⟨h1, o, h2, _⟩ := mem_ready.1 hi
    have hlt : i < ops.size := (Array.getElem?_eq_some_iff.1 h2).1
    have hls := hsize l a w hI
    have : unl ops.size (l.setIfInBounds i true) < unl ops.size l := by
      refine countP_lt (i := i) (fun x hx => ?_) (List.mem_range.2 hlt) (by simp only [Array.getD_eq_getD_getElem?] at h1 ⊢; rw [h1]; rfl) ?_
      · simp only [Array.getD_eq_getD_getElem?, Array.getElem?_setIfInBounds] at hx ⊢
        split at hx
        · split at hx <;> simp at hx
        · exact hx
      · simp [Array.getD_eq_getD_getElem?, hls, hlt]
    omega
end

theorem putT_look {t1 t2 : Array Value} {τ : Nat} {d : Option Tmp} {v : Value} (h : t1[τ]? = t2[τ]?) : (putT t1 d v)[τ]? = (putT t2 d v)[τ]? := by
  cases d with
  | none => exact h
  | some d =>
    simp only [putT, Array.getElem?_setIfInBounds]
    by_cases hd : d = τ
    · subst hd
      rw [if_pos rfl, if_pos rfl]
      by_cases h1 : d < t1.size
      · rw [if_pos h1]
        rw [Array.getElem?_eq_getElem h1] at h
        have := (Array.getElem?_eq_some_iff.1 h.symm).1
        rw [if_pos this]
      · rw [if_neg h1]
        rw [Array.getElem?_eq_none (xs := t1) (i := d) (Nat.le_of_not_lt h1)] at h
        have : ¬ d < t2.size := fun h2 => by rw [Array.getElem?_eq_getElem h2] at h; cases h
        rw [if_neg this]
    · rw [if_neg hd, if_neg hd]; exact h
theorem putT_other {t : Array Value} {τ : Nat} {d : Option Tmp} {v : Value} (h : d ≠ some τ) : (putT t d v)[τ]? = t[τ]? := by
  cases d with
  | none => rfl
  | some d => simp only [putT, Array.getElem?_setIfInBounds]; rw [if_neg (fun e => h (by rw [e]))]
theorem putsT_look {s1 s2 : Nat → Bool} {τ : Nat} : ∀ (i : Nat) (os : List Oper) (rs : List DR) (t1 t2 : Array Value), t1[τ]? = t2[τ]? →
    (∀ (j : Nat) (o : Oper), os[j]? = some o → s1 (i + j) ≠ s2 (i + j) → o.dst ≠ some τ) → (putsT s1 i os rs t1)[τ]? = (putsT s2 i os rs t2)[τ]?
  | _, [], [], _, _, h, _ => h
  | _, [], _ :: _, _, _, h, _ => h
  | _, _ :: _, [], _, _, h, _ => h
  | i, o :: os, r :: rs, t1, t2, h, hs => by
    rw [putsT, putsT]
    refine putsT_look (i + 1) os rs _ _ ?_ fun j p hp hne => hs (j + 1) p (by simpa using hp) (by rwa [show i + (j + 1) = i + 1 + j by omega])
    have h0 := hs 0 o rfl
    simp only [Nat.add_zero] at h0
    cases h1 : s1 i <;> cases h2 : s2 i <;> simp only [cond_true, cond_false]
    · exact h
    · rw [putT_other (h0 (by rw [h1, h2]; simp))]; exact h
    · rw [putT_other (h0 (by rw [h1, h2]; simp))]; exact h
    · exact putT_look h
theorem putsT_size (sel : Nat → Bool) : ∀ (i : Nat) (os : List Oper) (rs : List DR) (t : Array Value), (putsT sel i os rs t).size = t.size
  | _, [], [], _ => rfl
  | _, [], _ :: _, _ => rfl
  | _, _ :: _, [], _ => rfl
  | i, o :: os, r :: rs, t => by
    rw [putsT, putsT_size sel (i + 1)]
    cases sel i
    · rfl
    · cases hd : o.dst <;> simp [putT]
theorem putsT_stay {sel : Nat → Bool} {τ : Nat} : ∀ (i : Nat) (os : List Oper) (rs : List DR) (t : Array Value),
    (∀ (j : Nat) (o : Oper), os[j]? = some o → sel (i + j) = true → o.dst ≠ some τ) → (putsT sel i os rs t)[τ]? = t[τ]?
  | _, [], [], _, _ => rfl
  | _, [], _ :: _, _, _ => rfl
  | _, _ :: _, [], _, _ => rfl
  | i, o :: os, r :: rs, t, hs => by
    rw [putsT, putsT_stay (i + 1) os rs _ fun j p hp hj => hs (j + 1) p (by simpa using hp) (by rwa [show i + (j + 1) = i + 1 + j by omega])]
    have h0 := hs 0 o rfl
    simp only [Nat.add_zero] at h0
    cases h1 : sel i
    · rfl
    · exact putT_other (h0 h1)
theorem putsT_self {sel : Nat → Bool} {τ : Nat} {o : Oper} {r : DR} : ∀ (i : Nat) (os : List Oper) (rs : List DR) (t : Array Value) (j : Nat), os[j]? = some o → rs[j]? = some r → sel (i + j) = true → o.dst = some τ → τ < t.size →
    (∀ (k : Nat) (p : Oper), os[k]? = some p → k ≠ j → sel (i + k) = true → p.dst ≠ some τ) → (putsT sel i os rs t)[τ]? = some r.v
  | _, [], _, _, _, h, _, _, _, _, _ => by cases h
  | _, _ :: _, [], _, _, _, h, _, _, _, _ => by cases h
  | i, p :: os, q :: rs, t, 0, ho, hr, hs, hd, hsz, hk => by
    simp only [List.getElem?_cons_zero, Option.some.injEq] at ho hr; subst ho hr
    simp only [Nat.add_zero] at hs
    rw [putsT, putsT_stay (i + 1) os rs _ fun k p' hp hj => hk (k + 1) p' (by simpa using hp) (by omega) (by rwa [show i + (k + 1) = i + 1 + k by omega]), hs]
    simp [putT, hd, hsz]
  | i, p :: os, q :: rs, t, j + 1, ho, hr, hs, hd, hsz, hk => by
    rw [putsT]
    refine putsT_self (i + 1) os rs _ j (by simpa using ho) (by simpa using hr) (by rwa [show i + 1 + j = i + (j + 1) by omega]) hd ?_ fun k p' hp hj hk' => hk (k + 1) p' (by simpa using hp) (by omega) (by rwa [show i + (k + 1) = i + 1 + k by omega])
    cases sel i
    · exact hsz
    · cases hd' : p.dst <;> simpa [putT] using hsz
theorem putsT_from {sel : Nat → Bool} {v : Value} : ∀ (i : Nat) (os : List Oper) (rs : List DR) (t : Array Value), v ∈ putsT sel i os rs t → v ∈ t ∨ ∃ (j : Nat) (r : DR), rs[j]? = some r ∧ j < os.length ∧ sel (i + j) = true ∧ v = r.v
  | _, [], [], _, h => .inl h
  | _, [], _ :: _, _, h => .inl h
  | _, _ :: _, [], _, h => .inl h
  | i, o :: os, r :: rs, t, h => by
    rw [putsT] at h
    rcases putsT_from (i + 1) os rs _ h with h1 | ⟨j, q, h1, h2, h3, h4⟩
    · cases hs : sel i
      · rw [hs] at h1; exact .inl h1
      · rw [hs] at h1
        simp only [cond_true] at h1
        cases hd : o.dst with
        | none => rw [hd] at h1; exact .inl h1
        | some d =>
          rw [hd] at h1
          rcases Array.mem_or_eq_of_mem_setIfInBounds h1 with h2 | h2
          · exact .inl h2
          · exact .inr ⟨0, r, rfl, by simp, by simpa using hs, h2⟩
    · exact .inr ⟨j + 1, q, by simpa using h1, by simp; omega, by rwa [show i + (j + 1) = i + 1 + j by omega], h4⟩
theorem putsH_look {s1 s2 : Nat → Bool} {b : Nat} : ∀ (i : Nat) (rs : List DR) (h1 h2 : AHeap), h1.get b = h2.get b →
    (∀ (j : Nat) (r : DR), rs[j]? = some r → s1 (i + j) ≠ s2 (i + j) → r.upd.get b = none) → (putsH s1 i rs h1).get b = (putsH s2 i rs h2).get b
  | _, [], _, _, h, _ => h
  | i, r :: rs, k1, k2, h, hs => by
    rw [putsH, putsH]
    refine putsH_look (i + 1) rs _ _ ?_ fun j p hp hne => hs (j + 1) p (by simpa using hp) (by rwa [show i + (j + 1) = i + 1 + j by omega])
    have h0 := hs 0 r rfl
    simp only [Nat.add_zero] at h0
    cases h1 : s1 i <;> cases h2 : s2 i <;> simp only [cond_true, cond_false, AHeap.lay_get]
    · exact h
    · rw [h0 (by rw [h1, h2]; simp)]; exact h
    · rw [h0 (by rw [h1, h2]; simp)]; exact h
    · rw [h]
theorem putsH_stay {sel : Nat → Bool} {b : Nat} : ∀ (i : Nat) (rs : List DR) (h : AHeap), (∀ (j : Nat) (r : DR), rs[j]? = some r → sel (i + j) = true → r.upd.get b = none) → (putsH sel i rs h).get b = h.get b
  | _, [], _, _ => rfl
  | i, r :: rs, h, hs => by
    rw [putsH, putsH_stay (i + 1) rs _ fun j p hp hj => hs (j + 1) p (by simpa using hp) (by rwa [show i + (j + 1) = i + 1 + j by omega])]
    have h0 := hs 0 r rfl
    simp only [Nat.add_zero] at h0
    cases h1 : sel i
    · rfl
    · simp only [cond_true, AHeap.lay_get]; rw [h0 h1]; rfl
theorem putsH_self {sel : Nat → Bool} {b : Nat} {B : ABlk} {r : DR} : ∀ (i : Nat) (rs : List DR) (h : AHeap) (j : Nat), rs[j]? = some r → sel (i + j) = true → r.upd.get b = some B →
    (∀ (k : Nat) (q : DR), rs[k]? = some q → j < k → sel (i + k) = true → q.upd.get b = none) → (putsH sel i rs h).get b = some B
  | _, [], _, _, h, _, _, _ => by cases h
  | i, q :: rs, h, 0, hr, hs, hb, hk => by
    simp only [List.getElem?_cons_zero, Option.some.injEq] at hr; subst hr
    simp only [Nat.add_zero] at hs
    rw [putsH, putsH_stay (i + 1) rs _ fun k p' hp hj => hk (k + 1) p' (by simpa using hp) (by omega) (by rwa [show i + (k + 1) = i + 1 + k by omega]), hs]
    simp only [cond_true, AHeap.lay_get, hb]; rfl
  | i, q :: rs, h, j + 1, hr, hs, hb, hk => by
    rw [putsH]
    exact putsH_self (i + 1) rs _ j (by simpa using hr) (by rwa [show i + 1 + j = i + (j + 1) by omega]) hb fun k p' hp hj hk' => hk (k + 1) p' (by simpa using hp) (by omega) (by rwa [show i + (k + 1) = i + 1 + k by omega])
theorem putsH_from {sel : Nat → Bool} {b : Nat} {B : ABlk} : ∀ (i : Nat) (rs : List DR) (h : AHeap), (putsH sel i rs h).get b = some B → h.get b = some B ∨ ∃ (j : Nat) (r : DR), rs[j]? = some r ∧ sel (i + j) = true ∧ r.upd.get b = some B
  | _, [], _, h => .inl h
  | i, r :: rs, h, hb => by
    rw [putsH] at hb
    rcases putsH_from (i + 1) rs _ hb with h1 | ⟨j, q, h1, h2, h3⟩
    · cases hs : sel i
      · rw [hs] at h1; exact .inl h1
      · rw [hs] at h1
        simp only [cond_true, AHeap.lay_get] at h1
        cases hu : r.upd.get b with
        | none => rw [hu] at h1; exact .inl h1
        | some C => rw [hu] at h1; exact .inr ⟨0, r, rfl, by simpa using hs, by rw [hu]; exact h1⟩
    · exact .inr ⟨j + 1, q, by simpa using h1, by rwa [show i + (j + 1) = i + 1 + j by omega], h3⟩

theorem regOk_edge {ops : List Oper} (h : regOk ops = true) {i : Nat} {o : Oper} (ho : ops[i]? = some o) {x : Edge} (hx : x ∈ o.after) (hb : Region.binds .any x = true) : x.on < i := by
  unfold regOk at h
  have h1 := List.all_eq_true.1 h i (List.mem_range.2 (List.getElem?_eq_some_iff.1 ho).1)
  rw [ho] at h1
  simp only [Bool.and_eq_true] at h1
  have := (Array.all_eq_true_iff_forall_mem.1 h1.1) x hx
  rw [hb] at this
  simpa [blt_iff] using this
theorem regOk_dst {ops : List Oper} (h : regOk ops = true) {i j : Nat} {o p : Oper} (ho : ops[i]? = some o) (hp : ops[j]? = some p) (hne : i ≠ j) {d : Tmp} (hd : p.dst = some d) :
    o.dst ≠ some d ∧ (d ∈ o.looksAt ops.toArray → dep (masksGo ops []) i j = true ∨ dep (masksGo ops []) j i = true) := by
  unfold regOk at h
  have h1 := List.all_eq_true.1 h i (List.mem_range.2 (List.getElem?_eq_some_iff.1 ho).1)
  rw [ho] at h1
  simp only [Bool.and_eq_true] at h1
  have h2 := List.all_eq_true.1 h1.2 j (List.mem_range.2 (List.getElem?_eq_some_iff.1 hp).1)
  rw [hp] at h2
  simp only [Bool.or_eq_true, Nat.beq_eq, hd, Bool.and_eq_true, bne_iff_ne, ne_eq, Bool.not_eq_true', List.contains_eq_mem, decide_eq_false_iff_not] at h2
  rcases h2 with h2 | ⟨h2, h3⟩
  · exact absurd h2 hne
  · exact ⟨h2, fun hm => by
    rcases h3 with (h3 | h3) | h3
    · exact absurd hm h3
    · exact .inl h3
    · exact .inr h3⟩
end
end Go.Den
