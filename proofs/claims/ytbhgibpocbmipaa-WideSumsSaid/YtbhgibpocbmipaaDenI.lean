/-
  A region that draws its order: what its reading tells of each operation.
-/
import Derived.Test.YtbhgibpocbmipaaDenH
namespace Go.Den
open Go.RowKit
noncomputable section

theorem AHeap.lay_get (h : AHeap) (b : Nat) : ∀ u : AHeap, (h.lay u).get b = (u.get b).or (h.get b)
  | [] => by simp [AHeap.lay, AHeap.get_nil]
  | (i, B) :: r => by
    have := AHeap.lay_get h b r
    unfold AHeap.lay at this ⊢
    rw [List.foldr_cons, AHeap.get_set, this]
    simp only [AHeap.get_cons]
    by_cases hi : i = b
    · simp [hi]
    · simp [hi]
theorem putsT_congr {s1 s2 : Nat → Bool} : ∀ (i : Nat) (os : List Oper) (rs : List DR) (t : Array Value), (∀ j, i ≤ j → j < i + rs.length → s1 j = s2 j) → putsT s1 i os rs t = putsT s2 i os rs t
  | _, [], [], _, _ => rfl
  | _, [], _ :: _, _, _ => rfl
  | _, _ :: _, [], _, _ => rfl
  | i, o :: os, r :: rs, t, h => by
    rw [putsT, putsT, h i (Nat.le_refl _) (by simp)]
    exact putsT_congr (i + 1) os rs _ fun j h1 h2 => h j (by omega) (by simp; omega)
theorem putsH_congr {s1 s2 : Nat → Bool} : ∀ (i : Nat) (rs : List DR) (t : AHeap), (∀ j, i ≤ j → j < i + rs.length → s1 j = s2 j) → putsH s1 i rs t = putsH s2 i rs t
  | _, [], _, _ => rfl
  | i, r :: rs, t, h => by
    rw [putsH, putsH, h i (Nat.le_refl _) (by simp)]
    exact putsH_congr (i + 1) rs _ fun j h1 h2 => h j (by omega) (by simp; omega)
theorem putsT_snoc (sel : Nat → Bool) (r : DR) : ∀ (i : Nat) (os : List Oper) (rs : List DR) (t : Array Value) (o : Oper), os[rs.length]? = some o →
    putsT sel i os (rs ++ [r]) t = bif sel (i + rs.length) then putT (putsT sel i os rs t) o.dst r.v else putsT sel i os rs t
  | i, [], [], t, o, h => by cases h
  | i, p :: os, [], t, o, h => by
    simp only [List.length_nil, List.getElem?_cons_zero, Option.some.injEq] at h; subst h
    simp only [List.nil_append, putsT, List.length_nil, Nat.add_zero]
  | i, [], _ :: _, t, o, h => by simp at h
  | i, p :: os, q :: rs, t, o, h => by
    rw [List.cons_append, putsT, putsT_snoc sel r (i + 1) os rs _ o (by simpa using h), putsT, List.length_cons, show i + 1 + rs.length = i + (rs.length + 1) by omega]
theorem putsH_snoc (sel : Nat → Bool) (r : DR) : ∀ (i : Nat) (rs : List DR) (t : AHeap),
    putsH sel i (rs ++ [r]) t = bif sel (i + rs.length) then (putsH sel i rs t).lay r.upd else putsH sel i rs t
  | i, [], t => by simp only [List.nil_append, putsH, List.length_nil, Nat.add_zero]
  | i, q :: rs, t => by
    rw [List.cons_append, putsH, putsH_snoc sel r (i + 1) rs, putsH, List.length_cons, show i + 1 + rs.length = i + (rs.length + 1) by omega]

section
variable {P : Program} {E : Env P} {e : Ev} {g : AHeap} {ops : List Oper} {h0 : AHeap} {t0 : Array Value} {nx0 : Nat}
/-- What is known of the operation i's record. -/
structure RecOk (E : Env P) (e : Ev) (g : AHeap) (ops : List Oper) (h0 : AHeap) (t0 : Array Value) (rs : List DR) (i : Nat) (o : Oper) (r : DR) : Prop where
  le : r.n0 ≤ r.n1
  how : (wantedA ops.toArray o (putsT (fun j => Nat.blt j i) 0 ops rs t0) = true ∧ (∃ T : FT, T.arr = putsT (fun j => Nat.blt j i) 0 ops rs t0 ∧ (opD E e g o T r.F r.n0).run = some ⟨r.v, r.upd, r.n1⟩) ∧
      (isStore o = true → ∀ b B, r.F.get b = some B → (r.upd.get b).isSome = true) ∧
      (∀ b B, r.F.get b = some B → (putsH (fun j => Nat.blt j i) 0 rs h0).get b = some B ∨ (putsH (fun j => dep (masksGo ops []) i j) 0 rs h0).get b = some B)) ∨
    (wantedA ops.toArray o (putsT (fun j => Nat.blt j i) 0 ops rs t0) = false ∧ r.F = [] ∧ r.upd = [] ∧ r.v = undef ∧ r.n0 = r.n1)
theorem putsT_short {sel : Nat → Bool} {rs : List DR} {r : DR} {t : Array Value} {o : Oper} (ho : ops[rs.length]? = some o) (h : sel rs.length = false) : putsT sel 0 ops (rs ++ [r]) t = putsT sel 0 ops rs t := by
  rw [putsT_snoc sel r 0 ops rs t o ho, Nat.zero_add, h]; rfl
theorem putsH_short {sel : Nat → Bool} {rs : List DR} {r : DR} {t : AHeap} (h : sel rs.length = false) : putsH sel 0 (rs ++ [r]) t = putsH sel 0 rs t := by
  rw [putsH_snoc sel r 0 rs t, Nat.zero_add, h]; rfl
theorem RecOk.more {rs : List DR} {i : Nat} {o p : Oper} {r q : DR} (ho : ops[rs.length]? = some p) (hi : i ≤ rs.length) (hil : i < ops.length) (h : RecOk E e g ops h0 t0 rs i o r) : RecOk E e g ops h0 t0 (rs ++ [q]) i o r := by
  have e1 : putsT (fun j => Nat.blt j i) 0 ops (rs ++ [q]) t0 = putsT (fun j => Nat.blt j i) 0 ops rs t0 := putsT_short ho (by
    cases hb : Nat.blt rs.length i
    · rfl
    · rw [blt_iff] at hb; omega)
  have e2 : putsH (fun j => Nat.blt j i) 0 (rs ++ [q]) h0 = putsH (fun j => Nat.blt j i) 0 rs h0 := putsH_short (by
    cases hb : Nat.blt rs.length i
    · rfl
    · rw [blt_iff] at hb; omega)
  have e3 : putsH (fun j => dep (masksGo ops []) i j) 0 (rs ++ [q]) h0 = putsH (fun j => dep (masksGo ops []) i j) 0 rs h0 := putsH_short (by
    cases hb : dep (masksGo ops []) i rs.length
    · rfl
    · have := dep_lt hil hb; omega)
  refine ⟨h.le, ?_⟩
  have := h.how
  rwa [e1, e2, e3]
/-- How far the reading has come. -/
structure Iv (E : Env P) (e : Ev) (g : AHeap) (ops : List Oper) (h0 : AHeap) (t0 : Array Value) (nx0 : Nat) (i : Nat) (s : DS) : Prop where
  len : s.rs.length = i
  t : s.t.arr = putsT (fun _ => true) 0 ops s.rs t0
  H : s.H = putsH (fun _ => true) 0 s.rs h0
  nx : nx0 ≤ s.nx
  rok : ∀ (j : Nat) (o : Oper) (r : DR), ops[j]? = some o → s.rs[j]? = some r → RecOk E e g ops h0 t0 s.rs j o r
  ord : ∀ (j : Nat) (r : DR), s.rs[j]? = some r → nx0 ≤ r.n0 ∧ r.n0 ≤ r.n1 ∧ r.n1 ≤ s.nx ∧ ∀ (k : Nat) (q : DR), k < j → s.rs[k]? = some q → q.n1 ≤ r.n0
theorem Iv.push {i : Nat} {s : DS} {o : Oper} {r : DR} (I : Iv E e g ops h0 t0 nx0 i s) (ho : ops[i]? = some o) (h0' : r.n0 = s.nx) (hle : r.n0 ≤ r.n1) (hr : RecOk E e g ops h0 t0 s.rs i o r) :
    Iv E e g ops h0 t0 nx0 (i + 1) ⟨s.rs ++ [r], putF s.t o.dst r.v, s.H.lay r.upd, r.n1⟩ := by
  have hlen := I.len
  have hil : i < ops.length := (List.getElem?_eq_some_iff.1 ho).1
  have ho' : ops[s.rs.length]? = some o := by rw [hlen]; exact ho
  have key : ∀ j q, (s.rs ++ [r])[j]? = some q → (j < i ∧ s.rs[j]? = some q) ∨ (j = i ∧ q = r) := by
    intro j q hq
    rw [List.getElem?_append] at hq
    split at hq
    · rename_i hj; exact .inl ⟨by omega, hq⟩
    · rename_i hj
      have hji : j - s.rs.length = 0 := by
        rcases Nat.eq_zero_or_pos (j - s.rs.length) with h | h
        · exact h
        · rw [List.getElem?_eq_none (by simp; omega)] at hq; cases hq
      rw [hji] at hq
      simp only [List.getElem?_cons_zero, Option.some.injEq] at hq
      exact .inr ⟨by omega, hq.symm⟩
  refine ⟨by simp [hlen], ?_, ?_, ?_, fun j p q hp hq => ?_, fun j q hq => ?_⟩
  · show (putF s.t o.dst r.v).arr = _
    rw [putF_arr, putsT_snoc _ r 0 ops s.rs t0 o ho', I.t]; rfl
  · show s.H.lay r.upd = _
    rw [putsH_snoc _ r 0 s.rs h0, I.H]; rfl
  · have := I.nx; show nx0 ≤ r.n1; omega
  · rcases key j q hq with ⟨h1, h2⟩ | ⟨rfl, rfl⟩
    · exact (I.rok j p q hp h2).more ho' (by omega) (by omega)
    · rw [ho] at hp; cases hp
      exact hr.more ho' (by omega) hil
  · rcases key j q hq with ⟨h1, h2⟩ | ⟨rfl, rfl⟩
    · obtain ⟨a, b, c, d⟩ := I.ord j q h2
      refine ⟨a, b, ?_, fun k q' hk hq' => ?_⟩
      · show q.n1 ≤ r.n1; omega
      · rcases key k q' hq' with ⟨_, h3⟩ | ⟨h3, _⟩
        · exact d k q' hk h3
        · omega
    · refine ⟨by have := I.nx; omega, hle, Nat.le_refl _, fun k q' hk hq' => ?_⟩
      rcases key k q' hq' with ⟨_, h3⟩ | ⟨h3, _⟩
      · have := (I.ord k q' h3).2.2.1; omega
      · omega
theorem only_get {h : AHeap} {b c : Nat} {B : ABlk} (hb : (only h b).get c = some B) : h.get c = some B := by
  unfold only at hb
  split at hb
  · rename_i C hC
    simp only [AHeap.get_cons, AHeap.get_nil] at hb
    split at hb
    · rename_i h1; subst h1; rw [hC]; exact hb
    · cases hb
  · cases hb
theorem footD_get {o : Oper} {t : FT} {H : AHeap} {hv : Unit → AHeap} {b : Nat} {B : ABlk} (hb : (footD o t H hv).get b = some B) : H.get b = some B ∨ (hv ()).get b = some B := by
  unfold footD at hb
  split at hb
  · split at hb
    · exact .inl (only_get hb)
    · cases hb
  · split at hb
    · exact .inl (only_get hb)
    · cases hb
  · split at hb
    · split at hb
      · simp only [cond_eq_ite] at hb
        split at hb
        · cases hb
        · exact .inr hb
      · cases hb
    · cases hb
  · cases hb
theorem get_mem {h : AHeap} {b : Nat} {B : ABlk} (hb : h.get b = some B) : (b, B) ∈ h := by
  induction h with
  | nil => cases hb
  | cons x r ih =>
    obtain ⟨i, C⟩ := x
    simp only [AHeap.get_cons] at hb
    split at hb
    · rename_i h1; subst h1; cases hb; exact List.mem_cons_self
    · exact List.mem_cons_of_mem _ (ih hb)
theorem Iv.step {i : Nat} {s s' : DS} {o : Oper} (I : Iv E e g ops h0 t0 nx0 i s) (ho : ops[i]? = some o) (hw : wantedA ops.toArray o s.t.arr = true) (hr : (drawStep E e g (masksGo ops []) i o h0 s).run = some s') :
    Iv E e g ops h0 t0 nx0 (i + 1) s' := by
  unfold drawStep at hr
  simp only [putFK_eq] at hr
  obtain ⟨q, hq, hr⟩ := Tree.run_bind_out hr
  obtain ⟨hc, hr⟩ := run_guardF hr
  cases hr
  rw [Bool.and_eq_true, Nat.ble_eq] at hc
  have eT : s.t.arr = putsT (fun j => Nat.blt j i) 0 ops s.rs t0 := by
    rw [I.t]; exact putsT_congr 0 ops s.rs t0 fun j _ h2 => by rw [Nat.zero_add, I.len] at h2; exact (blt_iff.2 h2).symm
  have eH : s.H = putsH (fun j => Nat.blt j i) 0 s.rs h0 := by
    rw [I.H]; exact putsH_congr 0 s.rs h0 fun j _ h2 => by rw [Nat.zero_add, I.len] at h2; exact (blt_iff.2 h2).symm
  refine I.push ho rfl hc.1 ⟨hc.1,   .inl ⟨by rw [← eT]; exact hw, ⟨s.t, eT, hq⟩, fun hst b B hb => ?_, fun b B hb => ?_⟩⟩
  · have h2 := hc.2
    rw [hst] at h2
    simp only [Bool.not_true, Bool.false_or, List.all_eq_true] at h2
    exact h2 _ (get_mem hb)
  · rw [← eH]; exact footD_get (o := o) (t := s.t) (H := s.H) (hv := fun _ => putsH (fun j => dep (masksGo ops []) i j) 0 s.rs h0) hb
theorem drawGo_out : ∀ (l : List Oper) (i : Nat) (s s' : DS), (drawGo E e g ops (masksGo ops []) h0 i l s).run = some s' → ops.drop i = l → Iv E e g ops h0 t0 nx0 i s → i ≤ ops.length → Iv E e g ops h0 t0 nx0 ops.length s'
  | [], i, s, s', hr, hd, I, hi => by
    cases hr
    have : ops.length ≤ i := by
      have := congrArg List.length hd
      simp at this; omega
    rw [show ops.length = i by omega]; exact I
  | o :: r, i, s, s', hr, hd, I, hi => by
    have ho : ops[i]? = some o := by
      have := congrArg (·[0]?) hd
      simpa using this
    have hd' : ops.drop (i + 1) = r := by
      have := congrArg (List.drop 1) hd
      simpa [List.drop_drop, Nat.add_comm] using this
    have hil : i < ops.length := (List.getElem?_eq_some_iff.1 ho).1
    have hsplit : (wantedA ops.toArray o s.t.arr = true ∧ ((drawStep E e g (masksGo ops []) i o h0 s).bind (drawGo E e g ops (masksGo ops []) h0 (i + 1) r)).run = some s') ∨
        (wantedA ops.toArray o s.t.arr = false ∧ (drawGo E e g ops (masksGo ops []) h0 (i + 1) r ⟨s.rs ++ [⟨[], [], undef, s.nx, s.nx⟩], putF s.t o.dst undef, s.H, s.nx⟩).run = some s') := by
      unfold drawGo at hr
      simp only [putFK_eq, wantedF_eq] at hr
      split at hr
      · rename_i hg; exact .inl ⟨wantedA_none hg, hr⟩
      · exact run_brF hr
    rcases hsplit with ⟨hw, hr⟩ | ⟨hw, hr⟩
    · obtain ⟨s1, h1, hr⟩ := Tree.run_bind_out hr
      exact drawGo_out r (i + 1) s1 s' hr hd' (I.step ho hw h1) (by omega)
    · have eT : s.t.arr = putsT (fun j => Nat.blt j i) 0 ops s.rs t0 := by
        rw [I.t]; exact putsT_congr 0 ops s.rs t0 fun j _ h2 => by rw [Nat.zero_add, I.len] at h2; exact (blt_iff.2 h2).symm
      have := I.push (r := ⟨[], [], undef, s.nx, s.nx⟩) ho rfl (Nat.le_refl _) ⟨Nat.le_refl _, .inr ⟨by rw [← eT]; exact hw, rfl, rfl, rfl, rfl⟩⟩
      exact drawGo_out r (i + 1) _ s' hr hd' this (by omega)
end
end
end Go.Den
