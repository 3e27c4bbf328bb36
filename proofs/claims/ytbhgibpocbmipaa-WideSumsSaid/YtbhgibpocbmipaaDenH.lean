/-
  A region that draws its order: read in the order of its text, and held against all others.
-/
import Derived.Test.YtbhgibpocbmipaaDenG
namespace Go.Den
open Go.RowKit
noncomputable section

mutual
/-- No name of v lies from lo to hi. -/
def avoid (lo hi : Nat) : Value → Bool
  | .pointer (some a) => Nat.blt a.block lo || Nat.ble hi a.block
  | .slice (some a) _ c => (Nat.blt a.block lo || Nat.ble hi a.block) && (Nat.blt c lo || Nat.ble hi c)
  | .slice none _ c => Nat.blt c lo || Nat.ble hi c
  | .map (some r) => Nat.blt r lo || Nat.ble hi r
  | .chan (some r) => Nat.blt r lo || Nat.ble hi r
  | .func _ ⟨f⟩ ⟨c⟩ => avoidL lo hi f && avoidL lo hi c
  | .iface _ v => avoid lo hi v
  | .agg ⟨cs⟩ => avoidL lo hi cs
  | .tuple ⟨cs⟩ => avoidL lo hi cs
  | .bool _ => true
  | .int _ _ => true
  | .float _ _ => true
  | .complex _ _ _ => true
  | .string _ => true
  | .pointer none => true
  | .map none => true
  | .chan none => true
  | .nilFunc => true
  | .nilIface => true
def avoidL (lo hi : Nat) : List Value → Bool
  | [] => true
  | v :: r => avoid lo hi v && avoidL lo hi r
end
theorem out_iff {b lo hi : Nat} : (Nat.blt b lo || Nat.ble hi b) = true ↔ b < lo ∨ hi ≤ b := by
  rw [Bool.or_eq_true, blt_iff, Nat.ble_eq]
mutual
theorem ren_avoid {ρ ρ' : Nat → Nat} {lo hi : Nat} (h : ∀ b, b < lo ∨ hi ≤ b → ρ' b = ρ b) : ∀ v, avoid lo hi v = true → ren ρ' v = ren ρ v
  | .pointer (some a), hb => by simp only [avoid, out_iff] at hb; simp [ren, h _ hb]
  | .slice (some a) l c, hb => by simp only [avoid, Bool.and_eq_true, out_iff] at hb; simp [ren, h _ hb.1, h _ hb.2]
  | .slice none l c, hb => by simp only [avoid, out_iff] at hb; simp [ren, h _ hb]
  | .map (some r), hb => by simp only [avoid, out_iff] at hb; simp [ren, h _ hb]
  | .chan (some r), hb => by simp only [avoid, out_iff] at hb; simp [ren, h _ hb]
  | .func fn ⟨f⟩ ⟨c⟩, hb => by
    simp only [avoid, Bool.and_eq_true] at hb
    simp [ren, renL_avoid h f hb.1, renL_avoid h c hb.2]
  | .iface t v, hb => by simp only [avoid] at hb; simp [ren, ren_avoid h v hb]
  | .agg ⟨cs⟩, hb => by simp only [avoid] at hb; simp [ren, renL_avoid h cs hb]
  | .tuple ⟨cs⟩, hb => by simp only [avoid] at hb; simp [ren, renL_avoid h cs hb]
  | .bool b, _ => rfl
  | .int k n, _ => rfl
  | .float k b, _ => rfl
  | .complex k a b, _ => rfl
  | .string s, _ => rfl
  | .pointer none, _ => rfl
  | .map none, _ => rfl
  | .chan none, _ => rfl
  | .nilFunc, _ => rfl
  | .nilIface, _ => rfl
theorem renL_avoid {ρ ρ' : Nat → Nat} {lo hi : Nat} (h : ∀ b, b < lo ∨ hi ≤ b → ρ' b = ρ b) : ∀ l, avoidL lo hi l = true → renL ρ' l = renL ρ l
  | [], _ => rfl
  | v :: r, hb => by
    simp only [avoidL, Bool.and_eq_true] at hb
    simp [renL, ren_avoid h v hb.1, renL_avoid h r hb.2]
end
mutual
theorem avoid_bel {n lo hi : Nat} (h : n ≤ lo) : ∀ v, bel n v = true → avoid lo hi v = true
  | .pointer (some a), hb => by simp only [bel, blt_iff, avoid, out_iff] at hb ⊢; omega
  | .slice (some a) l c, hb => by simp only [bel, Bool.and_eq_true, blt_iff, avoid, out_iff] at hb ⊢; omega
  | .slice none l c, hb => by simp only [bel, blt_iff, avoid, out_iff] at hb ⊢; omega
  | .map (some r), hb => by simp only [bel, blt_iff, avoid, out_iff] at hb ⊢; omega
  | .chan (some r), hb => by simp only [bel, blt_iff, avoid, out_iff] at hb ⊢; omega
  | .func fn ⟨f⟩ ⟨c⟩, hb => by
    simp only [bel, avoid, Bool.and_eq_true] at hb ⊢
    exact ⟨avoidL_bel h f hb.1, avoidL_bel h c hb.2⟩
  | .iface t v, hb => by simp only [bel, avoid] at hb ⊢; exact avoid_bel h v hb
  | .agg ⟨cs⟩, hb => by simp only [bel, avoid] at hb ⊢; exact avoidL_bel h cs hb
  | .tuple ⟨cs⟩, hb => by simp only [bel, avoid] at hb ⊢; exact avoidL_bel h cs hb
  | .bool b, _ => rfl
  | .int k n, _ => rfl
  | .float k b, _ => rfl
  | .complex k a b, _ => rfl
  | .string s, _ => rfl
  | .pointer none, _ => rfl
  | .map none, _ => rfl
  | .chan none, _ => rfl
  | .nilFunc, _ => rfl
  | .nilIface, _ => rfl
theorem avoidL_bel {n lo hi : Nat} (h : n ≤ lo) : ∀ l, belL n l = true → avoidL lo hi l = true
  | [], _ => rfl
  | v :: r, hb => by
    simp only [belL, avoidL, Bool.and_eq_true] at hb ⊢
    exact ⟨avoid_bel h v hb.1, avoidL_bel h r hb.2⟩
end
def BAvoid (lo hi : Nat) (B : ABlk) : Prop := (∀ v ∈ B.cells, avoid lo hi v = true) ∧ ∀ k, B.op = some k → k < lo ∨ hi ≤ k
def bavoid (lo hi : Nat) (B : ABlk) : Bool := avoidL lo hi B.cells.toList && (match B.op with | some k => Nat.blt k lo || Nat.ble hi k | none => true)
theorem avoidL_mem {lo hi : Nat} : ∀ {l : List Value}, avoidL lo hi l = true → ∀ v ∈ l, avoid lo hi v = true
  | [], _, v, hv => by cases hv
  | x :: r, h, v, hv => by
    simp only [avoidL, Bool.and_eq_true] at h
    cases hv with
    | head => exact h.1
    | tail _ hv => exact avoidL_mem h.2 v hv
theorem bavoid_out {lo hi : Nat} {B : ABlk} (h : bavoid lo hi B = true) : BAvoid lo hi B := by
  unfold bavoid at h
  rw [Bool.and_eq_true] at h
  refine ⟨fun v hv => avoidL_mem h.1 v (by simpa using hv), fun k hk => ?_⟩
  have h2 := h.2
  rw [hk] at h2
  exact out_iff.1 h2
theorem BAvoid.of_bel {n lo hi : Nat} {B : ABlk} (h : n ≤ lo) (hb : BBel n B) : BAvoid lo hi B :=
  ⟨fun v hv => avoid_bel h v (hb.1 v hv), fun k hk => .inl (Nat.lt_of_lt_of_le (hb.2 k hk) h)⟩
theorem BlkAt.avoid {ρ ρ' : Nat → Nat} {lo hi : Nat} {w : World} {c : Nat} {B : ABlk} (h : ∀ b, b < lo ∨ hi ≤ b → ρ' b = ρ b) (hb : BAvoid lo hi B) (hB : BlkAt ρ w c B) : BlkAt ρ' w c B := by
  obtain ⟨junk, h1, h2⟩ := hB
  have he : B.cells.map (ren ρ') = B.cells.map (ren ρ) := Array.map_congr_left fun v hv => ren_avoid h v (hb.1 v hv)
  refine ⟨junk, by rw [he]; exact h1, ?_⟩
  cases ho : B.op with
  | none => rw [ho] at h2; exact h2
  | some k => rw [ho] at h2; simp only at h2 ⊢; rw [h k (hb.2 k ho)]; exact h2

/-! ### Which operation must come ahead of which -/
def maskOf (acc : List Nat) (o : Oper) : Nat := o.after.toList.foldl (fun s x => bif Region.binds .any x && Nat.blt x.on acc.length then s ||| 2 ^ x.on ||| acc.getD x.on 0 else s) 0
def masksGo : List Oper → List Nat → List Nat
  | [], acc => acc
  | o :: r, acc => masksGo r (acc ++ [maskOf acc o])
def dep (m : List Nat) (i j : Nat) : Bool := (m.getD i 0).testBit j
theorem masksGo_pre : ∀ (l : List Oper) (acc : List Nat), ∃ r, masksGo l acc = acc ++ r ∧ r.length = l.length
  | [], acc => ⟨[], by simp [masksGo], rfl⟩
  | o :: l, acc => by
    obtain ⟨r, h1, h2⟩ := masksGo_pre l (acc ++ [maskOf acc o])
    exact ⟨maskOf acc o :: r, by rw [masksGo, h1]; simp, by simp [h2]⟩
theorem masksGo_get : ∀ (l : List Oper) (acc : List Nat) (i : Nat) (o : Oper), l[i]? = some o → (masksGo l acc).getD (acc.length + i) 0 = maskOf ((masksGo l acc).take (acc.length + i)) o
  | [], _, _, _, h => by cases h
  | p :: l, acc, 0, o, h => by
    simp only [List.getElem?_cons_zero, Option.some.injEq] at h; subst h
    obtain ⟨r, h1, _⟩ := masksGo_pre l (acc ++ [maskOf acc p])
    rw [masksGo, h1]
    simp
  | p :: l, acc, i + 1, o, h => by
    have := masksGo_get l (acc ++ [maskOf acc p]) i o (by simpa using h)
    rw [masksGo]
    simpa [Nat.add_assoc, Nat.add_comm 1 i] using this
theorem mask_bits (acc : List Nat) (j : Nat) : ∀ (l : List Edge) (s : Nat), (l.foldl (fun s x => bif Region.binds .any x && Nat.blt x.on acc.length then s ||| 2 ^ x.on ||| acc.getD x.on 0 else s) s).testBit j = true →
    s.testBit j = true ∨ ∃ x ∈ l, Region.binds .any x = true ∧ x.on < acc.length ∧ (x.on = j ∨ (acc.getD x.on 0).testBit j = true)
  | [], s, h => .inl h
  | x :: l, s, h => by
    rw [List.foldl_cons] at h
    rcases mask_bits acc j l _ h with h1 | ⟨y, hy, h2⟩
    · cases hc : (Region.binds .any x && Nat.blt x.on acc.length) <;> simp only [hc, cond_true, cond_false] at h1
      · exact .inl h1
      · rw [Bool.and_eq_true, blt_iff] at hc
        simp only [Nat.testBit_or, Bool.or_eq_true, Nat.testBit_two_pow, decide_eq_true_eq] at h1
        rcases h1 with (h1 | h1) | h1
        · exact .inl h1
        · exact .inr ⟨x, List.mem_cons_self, hc.1, hc.2, .inl h1⟩
        · exact .inr ⟨x, List.mem_cons_self, hc.1, hc.2, .inr h1⟩
    · exact .inr ⟨y, List.mem_cons_of_mem _ hy, h2⟩
theorem dep_edge {ops : List Oper} {i j : Nat} {o : Oper} (ho : ops[i]? = some o) (h : dep (masksGo ops []) i j = true) :
    ∃ x ∈ o.after, Region.binds .any x = true ∧ x.on < i ∧ (x.on = j ∨ dep (masksGo ops []) x.on j = true) := by
  unfold dep at h
  have hg := masksGo_get ops [] i o ho
  simp only [List.length_nil, Nat.zero_add] at hg
  rw [hg] at h
  have hi : i < ops.length := (List.getElem?_eq_some_iff.1 ho).1
  obtain ⟨r, h1, h2⟩ := masksGo_pre ops []
  have hlen : ((masksGo ops []).take i).length = i := by rw [List.length_take, h1]; simp; omega
  rcases mask_bits _ j _ 0 h with h3 | ⟨x, hx, h3, h4, h5⟩
  · simp at h3
  · rw [hlen] at h4
    refine ⟨x, by simpa using hx, h3, h4, ?_⟩
    rcases h5 with h5 | h5
    · exact .inl h5
    · right; unfold dep
      rwa [List.getD_eq_getElem?_getD, List.getElem?_take_of_lt h4, ← List.getD_eq_getElem?_getD] at h5
theorem dep_lt {ops : List Oper} : ∀ {i j : Nat}, i < ops.length → dep (masksGo ops []) i j = true → j < i := by
  intro i
  induction i using Nat.strongRecOn with
  | _ i ih =>
    intro j hi h
    obtain ⟨x, _, _, h2, h3⟩ := dep_edge (List.getElem?_eq_getElem hi) h
    rcases h3 with h3 | h3
    · omega
    · have := ih x.on h2 (by omega) h3; omega

/-! ### The reading -/
structure DR where
  F : AHeap
  upd : AHeap
  v : Value
  n0 : Nat
  n1 : Nat
def isStore (o : Oper) : Bool :=
  match o.op with
  | .store _ _ _ => true
  | _ => false
def only (h : AHeap) (b : Nat) : AHeap :=
  match h.get b with
  | some B => [(b, B)]
  | none => []
/-- The blocks that an operation may look at: H is what all that stands ahead of it has left, hv what those that must come ahead have. -/
def footD (o : Oper) (t : FT) (H : AHeap) (hv : Unit → AHeap) : AHeap :=
  match o.op with
  | .load _ x => match evF t x with
    | .pointer (some a) => only H a.block
    | _ => []
  | .store _ x _ => match evF t x with
    | .pointer (some a) => only H a.block
    | _ => []
  | .call c => match c.callee with
    | .value f => match evF t f with
      | .func _ first cap => bif allV (belF B0) first.toList && (allV (belF B0) (c.args.toList.map (evF t)) && allV (belF B0) cap.toList) then [] else hv ()
      | _ => []
    | _ => []
  | _ => []
section
variable {P : Program} (E : Env P) (e : Ev)
def opD (g : AHeap) (o : Oper) (t : FT) (F : AHeap) (nx : Nat) : Tree VR :=
  match callOf o.op with
  | some c => callK (P := P) c t [] nx fun f args => bif fall (belF B0) args then callL E e (F ++ g) f args nx else callR E e (F ++ g) f args [] nx
  | none => bif isStore o then aopT E g o t F nx else aopP E (F ++ g) o t [] nx
end
def AHeap.lay (h : AHeap) (u : AHeap) : AHeap := u.foldr (fun x h => AHeap.set h x.1 x.2) h
def putsT (sel : Nat → Bool) : Nat → List Oper → List DR → Array Value → Array Value
  | i, o :: os, r :: rs, t => putsT sel (i + 1) os rs (bif sel i then putT t o.dst r.v else t)
  | _, _, _, t => t
def putsH (sel : Nat → Bool) : Nat → List DR → AHeap → AHeap
  | i, r :: rs, h => putsH sel (i + 1) rs (bif sel i then h.lay r.upd else h)
  | _, [], h => h
/-- Two records that no order holds apart don't touch each other's blocks, and the second one bears no name of the first one's. -/
def apartD (a b : DR) : Bool :=
  a.F.all (fun x => (b.upd.get x.1).isNone) && b.F.all (fun x => (a.upd.get x.1).isNone) &&
  (Nat.beq a.n0 a.n1 || (avoid a.n0 a.n1 b.v && b.upd.all fun x => bavoid a.n0 a.n1 x.2))
/-- Bears v no name at all? -/
def flat : Value → Bool
  | .int _ _ => true
  | .bool _ => true
  | .string _ => true
  | .pointer none => true
  | .nilIface => true
  | .nilFunc => true
  | .agg ⟨cs⟩ => go cs
  | .tuple ⟨cs⟩ => go cs
  | _ => false
where go : List Value → Bool
  | [] => true
  | .int _ _ :: r => go r
  | .bool _ :: r => go r
  | .string _ :: r => go r
  | .pointer none :: r => go r
  | _ => false
def idle (r : DR) : Bool :=
  match r.F, r.upd with
  | [], [] => Nat.beq r.n0 r.n1 && flat r.v
  | _, _ => false
def noClash (m : List Nat) (rs : List DR) : Bool :=
  let act := rs.zipIdx.filter fun x => !(idle x.1)
  act.all fun x => act.all fun y => Nat.ble y.2 x.2 || dep m y.2 x.2 || apartD x.1 y.1
structure DS where
  rs : List DR
  t : FT
  H : AHeap
  nx : Nat
section
variable {P : Program} (E : Env P) (e : Ev)
def drawStep (g : AHeap) (m : List Nat) (i : Nat) (o : Oper) (h0 : AHeap) (s : DS) : Tree DS :=
  let F := footD o s.t s.H fun _ => putsH (fun j => dep m i j) 0 s.rs h0
  (opD E e g o s.t F s.nx).bind fun q =>
    brF E.frc (Nat.ble s.nx q.nx && (!(isStore o) || F.all fun x => (q.h.get x.1).isSome)) (putFK s.t o.dst q.v fun t' => .leaf ⟨s.rs ++ [⟨F, q.h, q.v, s.nx, q.nx⟩], t', s.H.lay q.h, q.nx⟩) .fail
def drawGo (g : AHeap) (ops : List Oper) (m : List Nat) (h0 : AHeap) : Nat → List Oper → DS → Tree DS
  | _, [], s => .leaf s
  | i, o :: r, s =>
    match o.guard with
    | none => (drawStep E e g m i o h0 s).bind (drawGo g ops m h0 (i + 1) r)
    | some _ => brF E.frc (wantedF ops o s.t) ((drawStep E e g m i o h0 s).bind (drawGo g ops m h0 (i + 1) r))
        (putFK s.t o.dst undef fun t' => drawGo g ops m h0 (i + 1) r ⟨s.rs ++ [⟨[], [], undef, s.nx, s.nx⟩], t', s.H, s.nx⟩)
def drawT (g : AHeap) (ops : List Oper) (t : FT) (h : AHeap) (nx : Nat) : Tree St :=
  let m := masksGo ops []
  (drawGo E e g ops m h 0 ops ⟨[], t, h, nx⟩).bind fun s => brF E.frc (noClash m s.rs) (.leaf ⟨s.t, s.H, s.nx⟩) .fail
end
/-- What holds of a region's text alone. -/
def regOk (ops : List Oper) : Bool :=
  let m := masksGo ops []
  (List.range ops.length).all fun i =>
    match ops[i]? with
    | some o => o.after.all (fun x => !Region.binds .any x || Nat.blt x.on i) &&
      (List.range ops.length).all fun j =>
        match ops[j]? with
        | some p => Nat.beq i j || match p.dst with
          | some d => (o.dst != some d) && (!((o.looksAt ops.toArray).contains d) || dep m i j || dep m j i)
          | none => true
        | none => true
    | none => true
end
end Go.Den
