/-
  A region that draws its order: the theorem.
-/
import Derived.Test.YtbhgibpocbmipaaDenJ
namespace Go.Den
open Go.RowKit
noncomputable section

section
variable {P : Program} {E : Env P} {e : Ev} {g h : AHeap} {nx : Nat}
theorem opD_sound (hs : Sound P e) {o : Oper} {t : FT} {F : AHeap} {r : VR} (hc : (opD E e g o t F nx).run = some r) :
    OpSat P o (bif isStore o then g else F ++ g) t.arr (bif isStore o then F else []) nx r := by
  unfold opD at hc
  split at hc
  · rename_i c hcall
    have ho := callOf_eq hcall
    have : isStore o = false := by unfold isStore; rw [ho]
    rw [this]
    refine callK_sound ho (fun f args r hk => ?_) hc
    simp only [cond_eq_ite, belF_fun, fall_eq] at hk
    split at hk
    · rename_i hlow; exact callL_sound hs hk hlow
    · obtain ⟨h1, h2⟩ := callR_sound hs hk
      exact h1.sat E h2
  · cases hst : isStore o <;> simp only [hst, cond_true, cond_false] at hc ⊢
    · have h1 : storeOf o.op = none := by
        unfold isStore at hst
        generalize o.op = op at hst ⊢
        cases op <;> first | rfl | (cases hst; done)
      rw [aopP_T h1] at hc
      exact opSat_aop hc
    · exact opSat_aop hc
theorem flat_go {lo hi : Nat} : ∀ {l : List Value}, flat.go l = true → avoidL lo hi l = true
  | [], _ => rfl
  | v :: r, h => by
    unfold flat.go at h
    split at h
    · rename_i hq; cases hq
    all_goals first
      | (rename_i hq; cases hq; simp only [avoidL, avoid, Bool.true_and]; exact flat_go h)
      | (rename_i hq; cases hq; done)
      | cases h
theorem flat_avoid {lo hi : Nat} {v : Value} (h : flat v = true) : avoid lo hi v = true := by
  unfold flat at h
  split at h
  all_goals first
    | rfl
    | exact flat_go h
    | cases h
theorem idle_l {a b : DR} (h : idle a = true) : apartD a b = true := by
  unfold idle at h
  split at h
  · rename_i h1 h2
    rw [Bool.and_eq_true] at h
    unfold apartD
    rw [h1, h2, h.1]
    simp [AHeap.get_nil]
  · cases h
theorem idle_r {a b : DR} (h : idle b = true) : apartD a b = true := by
  unfold idle at h
  split at h
  · rename_i h1 h2
    rw [Bool.and_eq_true] at h
    unfold apartD
    rw [h1, h2, flat_avoid h.2]
    simp [AHeap.get_nil]
  · cases h
theorem noClash_out {m : List Nat} {rs : List DR} (h : noClash m rs = true) {i j : Nat} {a b : DR} (hij : i < j) (ha : rs[i]? = some a) (hb : rs[j]? = some b) : dep m j i = true ∨ apartD a b = true := by
  unfold noClash at h
  cases hia : idle a
  · cases hib : idle b
    · have m1 : (a, i) ∈ rs.zipIdx.filter fun x => !(idle x.1) := List.mem_filter.2 ⟨List.mk_mem_zipIdx_iff_getElem?.2 ha, by simp [hia]⟩
      have m2 : (b, j) ∈ rs.zipIdx.filter fun x => !(idle x.1) := List.mem_filter.2 ⟨List.mk_mem_zipIdx_iff_getElem?.2 hb, by simp [hib]⟩
      have h2 := List.all_eq_true.1 (List.all_eq_true.1 h _ m1) _ m2
      simp only [Bool.or_eq_true, Nat.ble_eq] at h2
      rcases h2 with (h2 | h2) | h2
      · omega
      · exact .inl h2
      · exact .inr h2
    · exact .inr (idle_r hib)
  · exact .inr (idle_l hia)
structure ApartD (a b : DR) : Prop where
  l : ∀ c B, a.F.get c = some B → b.upd.get c = none
  r : ∀ c B, b.F.get c = some B → a.upd.get c = none
  v : a.n0 < a.n1 → avoid a.n0 a.n1 b.v = true ∧ ∀ c B, b.upd.get c = some B → BAvoid a.n0 a.n1 B
theorem apartD_out {a b : DR} (h : apartD a b = true) : ApartD a b := by
  unfold apartD at h
  simp only [Bool.and_eq_true, Bool.or_eq_true, Nat.beq_eq] at h
  obtain ⟨⟨h1, h2⟩, h3⟩ := h
  refine ⟨fun c B hc => ?_, fun c B hc => ?_, fun hlt => ?_⟩
  · simpa using List.all_eq_true.1 h1 _ (get_mem hc)
  · simpa using List.all_eq_true.1 h2 _ (get_mem hc)
  · rcases h3 with h3 | ⟨h3, h4⟩
    · omega
    · exact ⟨h3, fun c B hc => bavoid_out (List.all_eq_true.1 h4 _ (get_mem hc))⟩
theorem Rel.raise {ρ : Nat → Nat} {w : World} {N : Nat} (R : Rel ρ g h nx w) (hN : nx ≤ N) : Rel ρ g h N w :=
  { R with
    base := Nat.le_trans R.base hN
    lt := fun b B hb => ⟨(R.lt b B hb).1, Nat.lt_of_lt_of_le (R.lt b B hb).2 hN⟩
    glt := fun b B hb => Nat.lt_of_lt_of_le (R.glt b B hb) hN
    hbel := fun b B hb => (R.hbel b B hb).mono hN
    gbel := fun b B hb => (R.gbel b B hb).mono hN }
theorem wantedA_look {ops : Array Oper} {o : Oper} {t1 t2 : Array Value} (h : ∀ τ, τ ∈ o.looksAt ops → t1[τ]? = t2[τ]?) : wantedA ops o t1 = wantedA ops o t2 := by
  unfold wantedA
  cases hg : o.guard with
  | none => rfl
  | some jw =>
    obtain ⟨j, want⟩ := jw
    have : yielded ops t1 j = yielded ops t2 j := by
      unfold yielded
      cases hd : (ops[j]?).bind (·.dst) with
      | none => rfl
      | some τ =>
        simp only [Option.bind_some]
        rw [h τ (List.mem_append_right _ (by simp [hg, hd]))]
    simp only [this]
theorem eval_look {ops : Array Oper} {o : Oper} {a1 a2 : Act} (h : ∀ τ, τ ∈ o.looksAt ops → a1.tmps[τ]? = a2.tmps[τ]?) {x : Operand} (hx : x ∈ o.op.operands) : a1.eval x = a2.eval x := by
  cases x with
  | tmp τ =>
    have := h τ (List.mem_append_left _ (List.mem_filterMap.2 ⟨.tmp τ, by simpa using hx, rfl⟩))
    simp only [Act.eval, Array.getD_eq_getD_getElem?, this]
  | _ => rfl
end

section
variable {P : Program} {E : Env P} {e : Ev} {g : AHeap} {ops : List Oper} {h0 : AHeap} {t0 : Array Value} {nx0 N : Nat} {rs : List DR}
/-- The reading as a whole. -/
structure Whole (E : Env P) (e : Ev) (g : AHeap) (ops : List Oper) (h0 : AHeap) (t0 : Array Value) (nx0 N : Nat) (rs : List DR) : Prop where
  ok : regOk ops = true
  len : rs.length = ops.length
  rok : ∀ (j : Nat) (o : Oper) (r : DR), ops[j]? = some o → rs[j]? = some r → RecOk E e g ops h0 t0 rs j o r
  ord : ∀ (j : Nat) (r : DR), rs[j]? = some r → nx0 ≤ r.n0 ∧ r.n0 ≤ r.n1 ∧ r.n1 ≤ N ∧ ∀ (k : Nat) (q : DR), k < j → rs[k]? = some q → q.n1 ≤ r.n0
  nc : noClash (masksGo ops []) rs = true
/-- What an operation's record bears, once it has run. -/
structure UpdOk (r : DR) : Prop where
  v : bel r.n1 r.v = true
  b : ∀ c B, r.upd.get c = some B → BBel r.n1 B ∧ B0 ≤ c ∧ c < r.n1 ∧ (r.n0 ≤ c ∨ ∃ C, r.F.get c = some C)
/-- Of two that no order holds apart. -/
theorem Whole.apart (W : Whole E e g ops h0 t0 nx0 N rs) {i j : Nat} {a b : DR} (ha : rs[i]? = some a) (hb : rs[j]? = some b) (hne : i ≠ j)
    (h1 : ¬ dep (masksGo ops []) i j = true) (h2 : ¬ dep (masksGo ops []) j i = true) :
    (∀ c B, a.F.get c = some B → b.upd.get c = none) ∧ (∀ c B, b.F.get c = some B → a.upd.get c = none) := by
  rcases Nat.lt_or_gt_of_ne hne with h | h
  · rcases noClash_out W.nc h ha hb with h3 | h3
    · exact absurd h3 h2
    · exact ⟨(apartD_out h3).l, (apartD_out h3).r⟩
  · rcases noClash_out W.nc h hb ha with h3 | h3
    · exact absurd h3 h1
    · exact ⟨(apartD_out h3).r, (apartD_out h3).l⟩
theorem Whole.apartU (W : Whole E e g ops h0 t0 nx0 N rs) {i j : Nat} {a b : DR} (ha : rs[i]? = some a) (hb : rs[j]? = some b) (hne : i ≠ j)
    (h1 : ¬ dep (masksGo ops []) i j = true) (h2 : ¬ dep (masksGo ops []) j i = true) (ua : UpdOk a) (ub : UpdOk b) : ∀ c B, a.upd.get c = some B → b.upd.get c = none := by
  intro c B hc
  obtain ⟨p1, p2⟩ := W.apart ha hb hne h1 h2
  cases hbu : b.upd.get c with
  | none => rfl
  | some D =>
    obtain ⟨_, _, a3, a4⟩ := ua.b c B hc
    obtain ⟨_, _, b3, b4⟩ := ub.b c D hbu
    rcases a4 with a4 | ⟨C, hC⟩
    · rcases b4 with b4 | ⟨C, hC⟩
      · rcases Nat.lt_or_gt_of_ne hne with h | h
        · have := (W.ord j b hb).2.2.2 i a h ha; omega
        · have := (W.ord i a ha).2.2.2 j b h hb; omega
      · rw [p2 c C hC] at hc; cases hc
    · rw [p1 c C hC] at hbu; cases hbu
/-- What holds of a set of operations that have run. -/
structure Inv (E : Env P) (e : Ev) (g : AHeap) (ops : List Oper) (h0 : AHeap) (t0 : Array Value) (nx0 N : Nat) (rs : List DR) (ρ0 : Nat → Nat) (w0 : World) (l : Array Bool) (a : Act) (w : World) : Prop where
  size : l.size = ops.length
  closed : ∀ i j, i < ops.length → l.getD i false = true → dep (masksGo ops []) i j = true → l.getD j false = true
  upd : ∀ (j : Nat) (r : DR), rs[j]? = some r → l.getD j false = true → UpdOk r
  world : ∃ ρ, a = actOf ρ (putsT (fun j => l.getD j false) 0 ops rs t0) ∧ Rel ρ g (putsH (fun j => l.getD j false) 0 rs h0) N w ∧ Step ρ0 h0 nx0 w0 ρ (putsH (fun j => l.getD j false) 0 rs h0) N w
end
end
end Go.Den
