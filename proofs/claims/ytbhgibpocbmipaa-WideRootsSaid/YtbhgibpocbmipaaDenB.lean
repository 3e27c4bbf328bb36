/-
  Heaps that are known in part, how they lie in a world, and steps between worlds.
-/
import Derived.Test.YtbhgibpocbmipaaDenA
namespace Go.Den
open Go.RowKit

structure ABlk where
  cells : Array Value
  T : TypeId
  op : Option Nat
  deriving Inhabited

abbrev AHeap := List (Nat × ABlk)

noncomputable def AHeap.get (h : AHeap) : Nat → Option ABlk :=
  List.rec (motive := fun _ => Nat → Option ABlk) (fun _ => none) (fun e _ ih b => Bool.casesOn (motive := fun _ => Option ABlk) (Nat.beq e.1 b) (ih b) (some e.2)) h
noncomputable def AHeap.set (h : AHeap) : Nat → ABlk → AHeap :=
  List.rec (motive := fun _ => Nat → ABlk → AHeap) (fun b B => [(b, B)]) (fun e r ih b B => Bool.casesOn (motive := fun _ => AHeap) (Nat.beq e.1 b) (e :: ih b B) ((e.1, B) :: r)) h
theorem AHeap.get_nil (b : Nat) : AHeap.get [] b = none := rfl
theorem AHeap.get_cons (i : Nat) (B : ABlk) (r : AHeap) (b : Nat) : AHeap.get ((i, B) :: r) b = if i = b then some B else AHeap.get r b := by
  show Bool.casesOn (motive := fun _ => Option ABlk) (Nat.beq i b) (AHeap.get r b) (some B) = _
  by_cases h : i = b
  · rw [nbeq_iff.2 h, if_pos h]
  · have : Nat.beq i b = false := by cases hb : Nat.beq i b with | false => rfl | true => exact absurd (nbeq_iff.1 hb) h
    rw [this, if_neg h]
theorem AHeap.set_nil (b : Nat) (B : ABlk) : AHeap.set [] b B = [(b, B)] := rfl
theorem AHeap.set_cons (i : Nat) (C : ABlk) (r : AHeap) (b : Nat) (B : ABlk) : AHeap.set ((i, C) :: r) b B = if i = b then (i, B) :: r else (i, C) :: AHeap.set r b B := by
  show Bool.casesOn (motive := fun _ => AHeap) (Nat.beq i b) ((i, C) :: AHeap.set r b B) ((i, B) :: r) = _
  by_cases h : i = b
  · rw [nbeq_iff.2 h, if_pos h]
  · have : Nat.beq i b = false := by cases hb : Nat.beq i b with | false => rfl | true => exact absurd (nbeq_iff.1 hb) h
    rw [this, if_neg h]
def AHeap.del : AHeap → Nat → AHeap
  | [], _ => []
  | (i, C) :: r, b => bif Nat.beq i b then AHeap.del r b else (i, C) :: AHeap.del r b

theorem AHeap.get_set (h : AHeap) (b c : Nat) (B : ABlk) : (h.set b B).get c = if b = c then some B else h.get c := by
  induction h with
  | nil => simp only [AHeap.set_nil, AHeap.get_cons]
  | cons e r ih =>
    obtain ⟨i, C⟩ := e
    simp only [AHeap.set_cons, AHeap.get_cons]
    by_cases h1 : i = b
    · subst h1; rw [if_pos rfl]; simp only [AHeap.get_cons]
      by_cases h2 : i = c
      · simp [h2]
      · simp [h2]
    · rw [if_neg h1]; simp only [AHeap.get_cons, ih]
      by_cases h2 : i = c
      · subst h2; simp [Ne.symm h1]
      · simp [h2]
theorem AHeap.get_del (h : AHeap) (b c : Nat) : (h.del b).get c = if b = c then none else h.get c := by
  induction h with
  | nil => simp [AHeap.del, AHeap.get_nil]
  | cons e r ih =>
    obtain ⟨i, C⟩ := e
    simp only [AHeap.del, AHeap.get_cons, cond_eq_ite, Nat.beq_eq]
    by_cases h1 : i = b
    · subst h1; rw [if_pos rfl, ih]; by_cases h2 : i = c <;> simp [h2]
    · rw [if_neg h1]; simp only [AHeap.get_cons, ih]
      by_cases h2 : i = c
      · subst h2; simp [Ne.symm h1]
      · simp [h2]
theorem AHeap.get_append (h u : AHeap) (c : Nat) : (h ++ u : AHeap).get c = (h.get c).or (u.get c) := by
  induction h with
  | nil => simp [AHeap.get_nil]
  | cons e r ih =>
    obtain ⟨i, C⟩ := e
    simp only [List.cons_append, AHeap.get_cons]
    by_cases h1 : i = c
    · simp [h1]
    · simp [h1, ih]

def B0 : Nat := 1099511627776

/-- Block c of w holds what B tells. -/
def BlkAt (ρ : Nat → Nat) (w : World) (c : Nat) (B : ABlk) : Prop :=
  ∃ junk : Array Value, w.heap[c]? = some (.cells (B.cells.map (ren ρ) ++ junk) B.T (0, 0)) ∧
    match B.op with
    | none => junk = #[]
    | some k => B.cells.size + junk.size = ρ k
/-- What a block tells has names below n. -/
def BBel (n : Nat) (B : ABlk) : Prop := (∀ v ∈ B.cells, bel n v = true) ∧ ∀ k, B.op = some k → k < n

theorem BlkAt.agree {ρ ρ' : Nat → Nat} {n : Nat} {w : World} {c : Nat} {B : ABlk} (h : ∀ b, b < n → ρ' b = ρ b) (hb : BBel n B) (hB : BlkAt ρ w c B) : BlkAt ρ' w c B := by
  obtain ⟨junk, h1, h2⟩ := hB
  have he : B.cells.map (ren ρ') = B.cells.map (ren ρ) := Array.map_congr_left fun v hv => ren_agree h v (hb.1 v hv)
  refine ⟨junk, by rw [he]; exact h1, ?_⟩
  cases ho : B.op with
  | none => rw [ho] at h2; exact h2
  | some k => rw [ho] at h2; simp only at h2 ⊢; rw [h k (hb.2 k ho)]; exact h2
theorem BlkAt.keep {ρ : Nat → Nat} {w w' : World} {c : Nat} {B : ABlk} (h : w'.heap[c]? = w.heap[c]?) (hB : BlkAt ρ w c B) : BlkAt ρ w' c B := by
  obtain ⟨junk, h1, h2⟩ := hB; exact ⟨junk, h.trans h1, h2⟩
theorem BlkAt.lt {ρ : Nat → Nat} {w : World} {c : Nat} {B : ABlk} (hB : BlkAt ρ w c B) : c < w.heap.size := by
  obtain ⟨junk, h1, _⟩ := hB; exact (Array.getElem?_eq_some_iff.1 h1).1
theorem BBel.mono {n m : Nat} {B : ABlk} (h : n ≤ m) (hb : BBel n B) : BBel m B :=
  ⟨fun v hv => bel_mono h v (hb.1 v hv), fun k hk => Nat.lt_of_lt_of_le (hb.2 k hk) h⟩

/-- The known parts g (only read) and h lie in the world w; names are below nx. -/
structure Rel (ρ : Nat → Nat) (g h : AHeap) (nx : Nat) (w : World) : Prop where
  low : ∀ b, b < B0 → ρ b = b
  base : B0 ≤ nx
  gat : ∀ b B, g.get b = some B → BlkAt ρ w (ρ b) B
  hat : ∀ b B, h.get b = some B → BlkAt ρ w (ρ b) B
  inj : ∀ b b' B B', h.get b = some B → h.get b' = some B' → ρ b = ρ b' → b = b'
  dis : ∀ b b' B B', h.get b = some B → g.get b' = some B' → ρ b ≠ ρ b'
  lt : ∀ b B, h.get b = some B → B0 ≤ b ∧ b < nx
  glt : ∀ b B, g.get b = some B → b < nx
  hbel : ∀ b B, h.get b = some B → BBel nx B
  gbel : ∀ b B, g.get b = some B → BBel nx B

/-- From w to w': what is neither h's nor new stands as it was; names that were keep their places. -/
structure Step (ρ : Nat → Nat) (h : AHeap) (nx : Nat) (w : World) (ρ' : Nat → Nat) (h' : AHeap) (nx' : Nat) (w' : World) : Prop where
  le : nx ≤ nx'
  agree : ∀ b, b < nx → ρ' b = ρ b
  old : ∀ b B, h'.get b = some B → b < nx → ∃ C, h.get b = some C
  new : ∀ b B, h'.get b = some B → nx ≤ b → w.heap.size ≤ ρ' b
  size : w.heap.size ≤ w'.heap.size
  os : w'.os = w.os
  tape : w'.tape = w.tape
  output : w'.output = w.output
  keep : ∀ c, c < w.heap.size → (∀ b B, h.get b = some B → ρ b ≠ c) → w'.heap[c]? = w.heap[c]?

theorem Step.refl (ρ : Nat → Nat) (h : AHeap) (nx : Nat) (w : World) (hlt : ∀ b B, h.get b = some B → b < nx) : Step ρ h nx w ρ h nx w :=
  ⟨Nat.le_refl _, fun _ _ => rfl, fun b B hb _ => ⟨B, hb⟩, fun b B hb hn => absurd (hlt b B hb) (by omega), Nat.le_refl _, rfl, rfl, rfl, fun _ _ _ => rfl⟩

theorem Step.trans {ρ1 ρ2 ρ3 : Nat → Nat} {h1 h2 h3 : AHeap} {n1 n2 n3 : Nat} {w1 w2 w3 : World}
    (a : Step ρ1 h1 n1 w1 ρ2 h2 n2 w2) (b : Step ρ2 h2 n2 w2 ρ3 h3 n3 w3) : Step ρ1 h1 n1 w1 ρ3 h3 n3 w3 where
  le := Nat.le_trans a.le b.le
  agree := fun c hc => (b.agree c (Nat.lt_of_lt_of_le hc a.le)).trans (a.agree c hc)
  old := fun c C hc hn => by
    obtain ⟨D, hD⟩ := b.old c C hc (Nat.lt_of_lt_of_le hn a.le)
    exact a.old c D hD hn
  new := fun c C hc hn => by
    by_cases h : c < n2
    · obtain ⟨D, hD⟩ := b.old c C hc h
      rw [b.agree c h]; exact a.new c D hD hn
    · exact Nat.le_trans a.size (b.new c C hc (by omega))
  size := Nat.le_trans a.size b.size
  os := b.os.trans a.os
  tape := b.tape.trans a.tape
  output := b.output.trans a.output
  keep := fun c hc hno => by
    refine (b.keep c (Nat.lt_of_lt_of_le hc a.size) fun d D hd he => ?_).trans (a.keep c hc hno)
    by_cases h : d < n1
    · obtain ⟨E, hE⟩ : ∃ E, h1.get d = some E := a.old d D hd h
      exact hno d E hE (by rw [← a.agree d h]; exact he)
    · have := a.new d D hd (by omega); omega

theorem Rel.drew {ρ : Nat → Nat} {g h : AHeap} {nx : Nat} {w : World} (r : Rel ρ g h nx w) : Rel ρ g h nx w.drew :=
  { r with gat := fun b B hb => (r.gat b B hb).keep rfl, hat := fun b B hb => (r.hat b B hb).keep rfl }
theorem Step.drew {ρ ρ' : Nat → Nat} {h h' : AHeap} {nx nx' : Nat} {w w' : World} (s : Step ρ h nx w.drew ρ' h' nx' w') : Step ρ h nx w ρ' h' nx' w' :=
  ⟨s.le, s.agree, s.old, s.new, s.size, s.os, s.tape, s.output, s.keep⟩

/-- Fewer blocks known. -/
theorem Rel.sub {ρ : Nat → Nat} {g g' h h' : AHeap} {nx : Nat} {w : World} (r : Rel ρ g h nx w)
    (hh : ∀ b B, h'.get b = some B → h.get b = some B) (hg : ∀ b B, g'.get b = some B → g.get b = some B) : Rel ρ g' h' nx w :=
  { r with
    gat := fun b B hb => r.gat b B (hg b B hb)
    hat := fun b B hb => r.hat b B (hh b B hb)
    inj := fun b b' B B' h1 h2 => r.inj b b' B B' (hh _ _ h1) (hh _ _ h2)
    dis := fun b b' B B' h1 h2 => r.dis b b' B B' (hh _ _ h1) (hg _ _ h2)
    lt := fun b B hb => r.lt b B (hh b B hb)
    glt := fun b B hb => r.glt b B (hg b B hb)
    hbel := fun b B hb => r.hbel b B (hh b B hb)
    gbel := fun b B hb => r.gbel b B (hg b B hb) }

/-- A new block: its name, and (if it is asked) the name of its cap. -/
def upd (ρ : Nat → Nat) (n x : Nat) : Nat → Nat := fun b => if b = n then x else ρ b
theorem upd_same (ρ : Nat → Nat) (n x : Nat) : upd ρ n x n = x := by simp [upd]
theorem upd_other {ρ : Nat → Nat} {n x b : Nat} (h : b ≠ n) : upd ρ n x b = ρ b := by simp [upd, h]
theorem upd_agree (ρ : Nat → Nat) (n x : Nat) : ∀ b, b < n → upd ρ n x b = ρ b := fun b h => upd_other (by omega)

theorem Rel.alloc {ρ : Nat → Nat} {g h : AHeap} {nx : Nat} {w : World} (r : Rel ρ g h nx w) (cs : Array Value) (T : TypeId) (hb : ∀ v ∈ cs, bel nx v = true) :
    Rel (upd ρ nx w.heap.size) g (h.set nx ⟨cs, T, none⟩) (nx + 1) (w.alloc (.cells (cs.map (ren ρ)) T)) ∧
    Step ρ h nx w (upd ρ nx w.heap.size) (h.set nx ⟨cs, T, none⟩) (nx + 1) (w.alloc (.cells (cs.map (ren ρ)) T)) := by
  have hag := upd_agree ρ nx w.heap.size
  have hold : ∀ c, c < w.heap.size → (w.alloc (.cells (cs.map (ren ρ)) T)).heap[c]? = w.heap[c]? := fun c hc => Below.heap_alloc _ _ _ hc
  have hnew : (w.alloc (.cells (cs.map (ren ρ)) T)).heap[w.heap.size]? = some (.cells (cs.map (ren ρ)) T (0, 0)) := heap_alloc_new w _
  have hcs : cs.map (ren (upd ρ nx w.heap.size)) = cs.map (ren ρ) := Array.map_congr_left fun v hv => ren_agree hag v (hb v hv)
  have key : ∀ b B, (h.set nx ⟨cs, T, none⟩).get b = some B → (b = nx ∧ B = ⟨cs, T, none⟩) ∨ (b ≠ nx ∧ h.get b = some B) := by
    intro b B hB
    rw [AHeap.get_set] at hB
    by_cases hn : nx = b
    · rw [if_pos hn] at hB; exact .inl ⟨hn.symm, (Option.some.inj hB).symm⟩
    · rw [if_neg hn] at hB; exact .inr ⟨Ne.symm hn, hB⟩
  refine ⟨⟨fun b hb0 => ?_, ?_, fun b B hB => ?_, fun b B hB => ?_, fun b b' B B' h1 h2 he => ?_, fun b b' B B' h1 h2 => ?_, fun b B hB => ?_, fun b B hB => ?_, fun b B hB => ?_, fun b B hB => ?_⟩,
    ⟨?_, hag, fun b B hB hn => ?_, fun b B hB hn => ?_, ?_, rfl, rfl, rfl, fun c hc _ => hold c hc⟩⟩
  · have := r.base; rw [upd_other (by omega)]; exact r.low b hb0
  · have := r.base; omega
  · have h1 := r.gat b B hB
    rw [upd_other (by have := r.glt b B hB; omega)]
    exact (h1.agree hag (r.gbel b B hB)).keep (hold _ h1.lt)
  · rcases key b B hB with ⟨rfl, rfl⟩ | ⟨hne, hB'⟩
    · rw [upd_same]; exact ⟨#[], by rw [hcs]; simpa using hnew, rfl⟩
    · rw [upd_other hne]
      have h1 := r.hat b B hB'
      exact (h1.agree hag (r.hbel b B hB')).keep (hold _ h1.lt)
  · rcases key b B h1 with ⟨rfl, rfl⟩ | ⟨hne, h1'⟩ <;> rcases key b' B' h2 with ⟨rfl, rfl⟩ | ⟨hne', h2'⟩
    · rfl
    · rw [upd_same, upd_other hne'] at he; have := (r.hat b' B' h2').lt; omega
    · rw [upd_same, upd_other hne] at he; have := (r.hat b B h1').lt; omega
    · rw [upd_other hne, upd_other hne'] at he; exact r.inj b b' B B' h1' h2' he
  · rw [upd_other (b := b') (by have := r.glt b' B' h2; omega)]
    rcases key b B h1 with ⟨rfl, rfl⟩ | ⟨hne, h1'⟩
    · rw [upd_same]; have := (r.gat b' B' h2).lt; omega
    · rw [upd_other hne]; exact r.dis b b' B B' h1' h2
  · rcases key b B hB with ⟨rfl, rfl⟩ | ⟨hne, hB'⟩
    · have := r.base; omega
    · have := r.lt b B hB'; omega
  · have := r.glt b B hB; omega
  · rcases key b B hB with ⟨rfl, rfl⟩ | ⟨hne, hB'⟩
    · exact ⟨fun v hv => bel_mono (by omega) v (hb v hv), fun k hk => by cases hk⟩
    · exact (r.hbel b B hB').mono (by omega)
  · exact (r.gbel b B hB).mono (by omega)
  · omega
  · rcases key b B hB with ⟨rfl, rfl⟩ | ⟨hne, hB'⟩
    · omega
    · exact ⟨B, hB'⟩
  · rcases key b B hB with ⟨rfl, rfl⟩ | ⟨hne, hB'⟩
    · rw [upd_same]; exact Nat.le_refl _
    · have := (r.lt b B hB').2; omega
  · simp

/-- Cells written one by one. -/
def wr : Array Value → Nat → List Value → Array Value
  | cs, _, [] => cs
  | cs, o, v :: r => wr (cs.setIfInBounds o v) (o + 1) r
theorem wr_size : ∀ (vs : List Value) (cs : Array Value) (o : Nat), (wr cs o vs).size = cs.size
  | [], _, _ => rfl
  | v :: r, cs, o => by rw [wr, wr_size r]; simp
theorem wr_map (f : Value → Value) : ∀ (vs : List Value) (cs : Array Value) (o : Nat), (wr cs o vs).map f = wr (cs.map f) o (vs.map f)
  | [], _, _ => rfl
  | v :: r, cs, o => by rw [wr, wr_map f r, List.map_cons, wr, Array.map_setIfInBounds]
theorem wr_append (js : Array Value) : ∀ (vs : List Value) (cs : Array Value) (o : Nat), o + vs.length ≤ cs.size → wr cs o vs ++ js = wr (cs ++ js) o vs
  | [], _, _, _ => rfl
  | v :: r, cs, o, h => by
    simp only [List.length_cons] at h
    rw [wr, wr, wr_append js r _ _ (by simp; omega)]
    congr 1
    apply Array.ext_getElem?
    intro i
    simp only [Array.getElem?_append, Array.getElem?_setIfInBounds, Array.size_setIfInBounds, Array.size_append]
    by_cases h1 : i < cs.size
    · simp only [h1, if_true]
      by_cases h2 : o = i
      · subst h2; simp [h1, show o < cs.size + js.size by omega]
      · simp [h2]
    · simp only [h1, if_false]
      by_cases h2 : o = i
      · omega
      · simp [h2]
theorem wr_bel {n : Nat} : ∀ (vs : List Value) (cs : Array Value) (o : Nat), (∀ v ∈ cs, bel n v = true) → (∀ v ∈ vs, bel n v = true) → ∀ v ∈ wr cs o vs, bel n v = true
  | [], _, _, h, _ => h
  | v :: r, cs, o, h, hv => by
    refine wr_bel r _ _ (fun x hx => ?_) (fun x hx => hv x (List.mem_cons_of_mem _ hx))
    rcases Array.mem_or_eq_of_mem_setIfInBounds hx with h1 | h1
    · exact h x h1
    · rw [h1]; exact hv v List.mem_cons_self
theorem heap_setCells_same (b : Nat) (T : TypeId) : ∀ (vs : List Value) (o : Nat) (w : World) (cs : Array Value), w.heap[b]? = some (.cells cs T (0, 0)) → (w.setCells b o vs).heap[b]? = some (.cells (wr cs o vs) T (0, 0))
  | [], _, _, _, h => h
  | v :: r, o, w, cs, h => heap_setCells_same b T r (o + 1) _ _ (heap_setCell_same w b o cs T v h)
theorem heap_setCells_other (b c : Nat) (hne : c ≠ b) : ∀ (vs : List Value) (o : Nat) (w : World), (w.setCells b o vs).heap[c]? = w.heap[c]?
  | [], _, _ => rfl
  | v :: r, o, w => (heap_setCells_other b c hne r (o + 1) _).trans (heap_setCell_other w ⟨b, o, none⟩ c v hne)
theorem setCells_more (b : Nat) : ∀ (vs : List Value) (o : Nat) (w : World), (w.setCells b o vs).heap.size = w.heap.size ∧ (w.setCells b o vs).os = w.os ∧ (w.setCells b o vs).tape = w.tape ∧ (w.setCells b o vs).output = w.output
  | [], _, _ => ⟨rfl, rfl, rfl, rfl⟩
  | v :: r, o, w => by
    obtain ⟨h1, h2, h3, h4⟩ := setCells_more b r (o + 1) (w.setCell ⟨b, o, none⟩ v)
    exact ⟨h1.trans (by simp [World.setCell]), h2, h3, h4⟩

theorem Rel.write {ρ : Nat → Nat} {g h : AHeap} {nx : Nat} {w : World} (r : Rel ρ g h nx w) {b : Nat} {B : ABlk} (hb : h.get b = some B) (o : Nat) (vs : List Value)
    (hlen : o + vs.length ≤ B.cells.size) (hv : ∀ v ∈ vs, bel nx v = true) :
    Rel ρ g (h.set b { B with cells := wr B.cells o vs }) nx (w.setCells (ρ b) o (vs.map (ren ρ))) ∧
    Step ρ h nx w ρ (h.set b { B with cells := wr B.cells o vs }) nx (w.setCells (ρ b) o (vs.map (ren ρ))) := by
  have key : ∀ c C, (h.set b { B with cells := wr B.cells o vs }).get c = some C → (c = b ∧ C = { B with cells := wr B.cells o vs }) ∨ (c ≠ b ∧ h.get c = some C) := by
    intro c C hC
    rw [AHeap.get_set] at hC
    by_cases hn : b = c
    · rw [if_pos hn] at hC; exact .inl ⟨hn.symm, (Option.some.inj hC).symm⟩
    · rw [if_neg hn] at hC; exact .inr ⟨Ne.symm hn, hC⟩
  have hoth : ∀ c, c ≠ ρ b → (w.setCells (ρ b) o (vs.map (ren ρ))).heap[c]? = w.heap[c]? := fun c hc => heap_setCells_other _ _ hc _ _ _
  have hex : ∀ c C, (h.set b { B with cells := wr B.cells o vs }).get c = some C → ∃ D, h.get c = some D := by
    intro c C hC; rcases key c C hC with ⟨rfl, rfl⟩ | ⟨_, h'⟩
    · exact ⟨B, hb⟩
    · exact ⟨C, h'⟩
  obtain ⟨m1, m2, m3, m4⟩ := setCells_more (ρ b) (vs.map (ren ρ)) o w
  refine ⟨⟨r.low, r.base, fun c C hC => ?_, fun c C hC => ?_, fun c c' C C' h1 h2 he => ?_, fun c c' C C' h1 h2 => ?_, fun c C hC => ?_, r.glt, fun c C hC => ?_, r.gbel⟩,
    ⟨Nat.le_refl _, fun _ _ => rfl, fun c C hC _ => hex c C hC, fun c C hC hn => ?_, Nat.le_of_eq m1.symm, m2, m3, m4, fun c hc hno => hoth c fun e => hno b B hb e.symm⟩⟩
  · exact (r.gat c C hC).keep (hoth _ fun e => r.dis b c B C hb hC e.symm)
  · rcases key c C hC with ⟨rfl, rfl⟩ | ⟨hne, hC'⟩
    · obtain ⟨junk, h1, h2⟩ := r.hat c B hb
      refine ⟨junk, ?_, ?_⟩
      · rw [heap_setCells_same _ _ _ _ _ _ h1, wr_map, wr_append _ _ _ _ (by simpa using hlen)]
      · cases ho : B.op with
        | none => rw [ho] at h2; simpa [ho] using h2
        | some k => rw [ho] at h2; simp only [wr_size]; exact h2
    · exact (r.hat c C hC').keep (hoth _ fun e => hne (r.inj c b C B hC' hb e))
  · obtain ⟨D, hD⟩ := hex c C h1; obtain ⟨D', hD'⟩ := hex c' C' h2
    exact r.inj c c' D D' hD hD' he
  · obtain ⟨D, hD⟩ := hex c C h1
    exact r.dis c c' D C' hD h2
  · obtain ⟨D, hD⟩ := hex c C hC; exact r.lt c D hD
  · rcases key c C hC with ⟨rfl, rfl⟩ | ⟨hne, hC'⟩
    · have := r.hbel c B hb
      exact ⟨wr_bel _ _ _ this.1 hv, this.2⟩
    · exact r.hbel c C hC'
  · obtain ⟨D, hD⟩ := hex c C hC; have := (r.lt c D hD).2; omega

/-- The same by lists. -/
noncomputable def wrL (l : List Value) (o : Nat) (vs : List Value) : List Value :=
  List.rec (motive := fun _ => List Value → Nat → List Value) (fun l _ => l) (fun v _ ih l o => ih (setL l o v) (o + 1)) vs l o
theorem wrL_eq : ∀ (vs l : List Value) (o : Nat), (⟨wrL l o vs⟩ : Array Value) = wr ⟨l⟩ o vs
  | [], _, _ => rfl
  | v :: r, l, o => by
    show (⟨wrL (setL l o v) (o + 1) r⟩ : Array Value) = _
    rw [wrL_eq r, wr]; congr 1; simp [setL_eq]
theorem wrL_arr (cs : Array Value) (o : Nat) (vs : List Value) : (⟨wrL cs.toList o vs⟩ : Array Value) = wr cs o vs := wrL_eq vs cs.toList o
theorem wr_full : ∀ (vs l p : List Value), l.length = vs.length → wr ⟨p ++ l⟩ p.length vs = ⟨p ++ vs⟩
  | [], l, p, h => by rw [List.length_eq_zero_iff.1 h]; rfl
  | v :: r, [], p, h => by simp at h
  | v :: r, x :: l, p, h => by
    rw [wr]
    have e1 : (⟨p ++ x :: l⟩ : Array Value).setIfInBounds p.length v = ⟨(p ++ [v]) ++ l⟩ := by
      simp only [List.setIfInBounds_toArray]
      congr 1
      rw [List.set_append_right _ _ (Nat.le_refl _), Nat.sub_self]
      simp
    rw [e1]
    have := wr_full r l (p ++ [v]) (by simpa using h)
    simp only [List.length_append, List.length_cons, List.length_nil, Nat.zero_add] at this
    rw [this]; simp
/-- Where all is written anew, it is what is written. -/
noncomputable def wrF (l : List Value) (o : Nat) (vs : List Value) : List Value := bif Nat.beq o 0 && Nat.beq vs.length l.length then vs else wrL l o vs
theorem wrF_arr (cs : Array Value) (o : Nat) (vs : List Value) : (⟨wrF cs.toList o vs⟩ : Array Value) = wr cs o vs := by
  unfold wrF
  cases h : (Nat.beq o 0 && Nat.beq vs.length cs.toList.length)
  · exact wrL_arr cs o vs
  · rw [Bool.and_eq_true, Nat.beq_eq, Nat.beq_eq] at h
    obtain ⟨rfl, h2⟩ := h
    exact (wr_full vs cs.toList [] h2.symm).symm
noncomputable def forceH {α : Type} (h : AHeap) : (AHeap → α) → α :=
  List.rec (motive := fun _ => (AHeap → α) → α) (fun c => c []) (fun e _ ih c => ih fun r => c (e :: r)) h
theorem forceH_eq {α : Type} : ∀ (h : AHeap) (c : AHeap → α), forceH h c = c h
  | [], _ => rfl
  | (i, B) :: r, c => by
    show forceH r (fun r => c ((i, B) :: r)) = _
    rw [forceH_eq r]
noncomputable def plainH {α : Type} (fr : Bool) (h : AHeap) (c : AHeap → α) : α := bif fr then forceH h c else c h
theorem plainH_eq {α : Type} (fr : Bool) (h : AHeap) (c : AHeap → α) : plainH fr h c = c h := by
  cases fr
  · rfl
  · simp only [plainH, cond_true, forceH_eq]
end Go.Den
