/-
  Own texts, merged: DenV DenO DenEnv WLeaf Shelf WMore WCmp
-/
import Derived.Test.YtidkpdabidlnnaaGreatDoorRows
import Derived.Shelf.Spec.BitsCarry
import Derived.Shelf.Strings.Builder1
import Derived.Shelf.Strings.Builder2
import Derived.Shelf.Strings.Trim
import Derived.Shelf.Small.Utf8
import Derived.Shelf.Small.Bits
import Derived.Shelf.Small.Strs
import Derived.Shelf.Small.Wraps
import Derived.Shelf.Strings.BuilderF
import Derived.Shelf.Strings.BuilderK
import Derived.Shelf.Strconv.Itoa0
import Derived.Shelf.Strconv.Itoa1
import Derived.Shelf.LaysM
import Derived.Shelf.Strconv.Itoa2
import Derived.Shelf.Strconv.Itoa3
import Derived.Shelf.Strconv.Itoa4
import Derived.Shelf.Strings.Search1
import Derived.Shelf.Strings.Search2
import Derived.Shelf.Strings.Search3
import Derived.Shelf.Strings.Count
import Derived.Shelf.Strings.Shaped
import Derived.Shelf.Strings.Prefix
import Derived.Shelf.Strings.Split
import Derived.Shelf.Strings.SplitShaped
import Derived.Shelf.Strings.Runes
import Derived.Shelf.Strings.AsciiSet
import Derived.Shelf.Bits.Mul64
import Derived.Shelf.Strings.Repeat
import Derived.Shelf.Unicode.DecodeSlow
import Derived.Shelf.Unicode.DecodeAny
import Derived.Shelf.Slices.Equal
import Derived.Shelf.Slices.Empties2
import Derived.Test.YtidkpdabidlnnaaGreatDoorProg
import Derived.Test.YtidkpdabidlnnaaGreatDoorQ2

/-
  Pieces of code, told up to the names of blocks: loops that make new blocks in each round.
-/
namespace Go.Den
open Go.RowKit
noncomputable section
set_option linter.unusedSectionVars false
variable [Inhabited Root] [Inhabited Names]

mutual
theorem ren_comp (ρ θ : Nat → Nat) : ∀ v, ren ρ (ren θ v) = ren (fun b => ρ (θ b)) v
  | .pointer (some a) => rfl
  | .slice (some a) l c => rfl
  | .slice none l c => rfl
  | .map (some r) => rfl
  | .chan (some r) => rfl
  | .func fn ⟨f⟩ ⟨c⟩ => by simp only [ren, renL_comp ρ θ f, renL_comp ρ θ c]
  | .iface t v => by simp only [ren, ren_comp ρ θ v]
  | .agg ⟨cs⟩ => by simp only [ren, renL_comp ρ θ cs]
  | .tuple ⟨cs⟩ => by simp only [ren, renL_comp ρ θ cs]
  | .bool b => rfl
  | .int k n => rfl
  | .float k b => rfl
  | .complex k a b => rfl
  | .string s => rfl
  | .pointer none => rfl
  | .map none => rfl
  | .chan none => rfl
  | .nilFunc => rfl
  | .nilIface => rfl
theorem renL_comp (ρ θ : Nat → Nat) : ∀ l, renL ρ (renL θ l) = renL (fun b => ρ (θ b)) l
  | [] => rfl
  | v :: r => by simp only [renL, ren_comp ρ θ v, renL_comp ρ θ r]
end
theorem map_comp (ρ θ : Nat → Nat) (a : Array Value) : (a.map (ren θ)).map (ren ρ) = a.map (ren fun b => ρ (θ b)) := by
  rw [Array.map_map]
  exact congrArg (fun f => Array.map f a) (funext fun v => ren_comp ρ θ v)
/-- From w to w': what is none of h's stands as it was; what is known behind is h's own, or new. -/
structure Far (ρ : Nat → Nat) (h : AHeap) (w : World) (ρ' : Nat → Nat) (h' : AHeap) (w' : World) : Prop where
  size : w.heap.size ≤ w'.heap.size
  os : w'.os = w.os
  tape : w'.tape = w.tape
  output : w'.output = w.output
  own : ∀ b B, h'.get b = some B → (∃ c C, h.get c = some C ∧ ρ c = ρ' b) ∨ w.heap.size ≤ ρ' b
  keep : ∀ c, c < w.heap.size → (∀ b B, h.get b = some B → ρ b ≠ c) → w'.heap[c]? = w.heap[c]?
theorem Far.trans {ρ1 ρ2 ρ3 : Nat → Nat} {h1 h2 h3 : AHeap} {w1 w2 w3 : World} (a : Far ρ1 h1 w1 ρ2 h2 w2) (b : Far ρ2 h2 w2 ρ3 h3 w3) : Far ρ1 h1 w1 ρ3 h3 w3 where
  size := Nat.le_trans a.size b.size
  os := b.os.trans a.os
  tape := b.tape.trans a.tape
  output := b.output.trans a.output
  own := fun n N hn => by
    rcases b.own n N hn with ⟨c, C, hc, e⟩ | hs
    · rcases a.own c C hc with ⟨d, D, hd, e2⟩ | hs2
      · exact .inl ⟨d, D, hd, e2.trans e⟩
      · exact .inr (by rw [← e]; exact hs2)
    · exact .inr (Nat.le_trans a.size hs)
  keep := fun c hc hno => by
    refine (b.keep c (Nat.lt_of_lt_of_le hc a.size) fun d D hd he => ?_).trans (a.keep c hc hno)
    rcases a.own d D hd with ⟨n, N, hn, e⟩ | hs
    · exact hno n N hn (e.trans he)
    · omega
theorem Step.far {ρ ρ' : Nat → Nat} {h h' : AHeap} {nx nx' : Nat} {w w' : World} (s : Step ρ h nx w ρ' h' nx' w') : Far ρ h w ρ' h' w' where
  size := s.size
  os := s.os
  tape := s.tape
  output := s.output
  own := fun b B hb => by
    by_cases hl : b < nx
    · obtain ⟨C, hC⟩ := s.old b B hb hl
      exact .inl ⟨b, C, hC, (s.agree b hl).symm⟩
    · exact .inr (s.new b B hb (by omega))
  keep := s.keep
section
variable {P : Program} {c a b : Code} {s s1 s2 : St} {x : Exit} {id : Nat} {Q Q1 Q2 : St → Prop}
def QPost (x : Exit) (Q : St → Prop) (ρ : Nat → Nat) (h : AHeap) (w : World) : Exit → Act → World → Prop := fun e a w' =>
  e = x ∧ ∃ s' ρ', Q s' ∧ a = actOf ρ' s'.tmps.arr ∧ SWf s'.tmps.arr s'.nx ∧ Rel ρ' [] s'.h s'.nx w' ∧ Far ρ h w ρ' s'.h w'
/-- Code c leads from s, by the exit x, to a state that Q holds of, whatever its blocks are. -/
def SatQ (P : Program) (c : Code) (s : St) (x : Exit) (Q : St → Prop) : Prop :=
  ∀ ρ w, Rel ρ [] s.h s.nx w → SWf s.tmps.arr s.nx → cwp P c (QPost x Q ρ s.h w) (actOf ρ s.tmps.arr) w
theorem satQ_of (h : SatCode P [] c s x s1) (hq : Q s1) : SatQ P c s x Q := by
  intro ρ w R ht
  refine cwp_mono (h ρ w R ht) ?_
  rintro e a w' ⟨rfl, ρ', rfl, ht', R', S⟩
  exact ⟨rfl, s1, ρ', hq, rfl, ht', R', S.far⟩
theorem satQ_mono (h : SatQ P c s x Q1) (hq : ∀ s', Q1 s' → Q2 s') : SatQ P c s x Q2 := by
  intro ρ w R ht
  refine cwp_mono (h ρ w R ht) ?_
  rintro e a w' ⟨rfl, s', ρ', h1, h2⟩
  exact ⟨rfl, s', ρ', hq s' h1, h2⟩
theorem QPost.trans {s' : St} {ρ ρ' : Nat → Nat} {h : AHeap} {w w' : World} (F : Far ρ h w ρ' s'.h w') {e : Exit} {a : Act} {u : World} (hp : QPost x Q ρ' s'.h w' e a u) : QPost x Q ρ h w e a u := by
  obtain ⟨h1, s3, ρ3, hq, h2, h3, h4, h5⟩ := hp
  exact ⟨h1, s3, ρ3, hq, h2, h3, h4, F.trans h5⟩
theorem satQ_seq (hc : c = .seq a b) (h1 : SatQ P a s .normal Q1) (h2 : ∀ s', Q1 s' → SatQ P b s' x Q2) : SatQ P c s x Q2 := by
  subst hc
  intro ρ w R ht
  refine cwp_of (by intro b h; cases h) (wp_seq ?_)
  refine wp_mono (cwp_wp (h1 ρ w R ht)) ?_
  rintro e a' w' ⟨rfl, s', ρ', hq, rfl, ht', R', F⟩
  exact wp_mono (cwp_wp (h2 s' hq ρ' w' R' ht')) fun x a u hp => hp.trans F
theorem satQ_seq_ret (hc : c = .seq a b) (h1 : SatQ P a s .ret Q) : SatQ P c s .ret Q := by
  subst hc
  intro ρ w R ht
  refine cwp_of (by intro b h; cases h) (wp_seq ?_)
  refine wp_mono (cwp_wp (h1 ρ w R ht)) ?_
  rintro e a' w' ⟨rfl, hp⟩
  exact ⟨rfl, hp⟩
theorem satQ_block (hc : c = .block id b) (h : SatQ P b s (.exit id) Q) : SatQ P c s .normal Q := by
  subst hc
  intro ρ w R ht
  refine cwp_of (by intro b h; cases h) (wp_block ?_)
  refine wp_mono (cwp_wp (h ρ w R ht)) ?_
  rintro e a' w' ⟨rfl, hp⟩
  simp only [Exit.inBlock, if_pos]
  exact ⟨rfl, hp⟩
theorem satQ_block_normal (hc : c = .block id b) (h : SatQ P b s .normal Q) : SatQ P c s .normal Q := by
  subst hc
  intro ρ w R ht
  refine cwp_of (by intro b h; cases h) (wp_block ?_)
  refine wp_mono (cwp_wp (h ρ w R ht)) ?_
  rintro e a' w' ⟨rfl, hp⟩
  exact ⟨rfl, hp⟩
theorem satQ_block_ret (hc : c = .block id b) (h : SatQ P b s .ret Q) : SatQ P c s .ret Q := by
  subst hc
  intro ρ w R ht
  refine cwp_of (by intro b h; cases h) (wp_block ?_)
  refine wp_mono (cwp_wp (h ρ w R ht)) ?_
  rintro e a' w' ⟨rfl, hp⟩
  exact ⟨rfl, hp⟩
theorem satQ_loop (hc : c = .loop b) (h1 : SatQ P b s .normal Q1) (h2 : ∀ s', Q1 s' → SatQ P c s' x Q2) : SatQ P c s x Q2 := by
  subst hc
  intro ρ w R ht
  refine cwp_loop ?_
  refine wp_mono (cwp_wp (h1 ρ w R ht)) ?_
  rintro e a' w' ⟨rfl, s', ρ', hq, rfl, ht', R', F⟩
  intro f k cs
  obtain ⟨e, a2, w2, hq2, harr⟩ := h2 s' hq ρ' w' R' ht' f k cs
  exact ⟨e, a2, w2, hq2.trans F, harr⟩
theorem satQ_loop_exit (hc : c = .loop b) (h1 : SatQ P b s (.exit id) Q) : SatQ P c s (.exit id) Q := by
  subst hc
  intro ρ w R ht
  refine cwp_loop ?_
  refine wp_mono (cwp_wp (h1 ρ w R ht)) ?_
  rintro e a' w' ⟨rfl, hp⟩
  exact ⟨rfl, hp⟩
theorem satQ_loop_ret (hc : c = .loop b) (h1 : SatQ P b s .ret Q) : SatQ P c s .ret Q := by
  subst hc
  intro ρ w R ht
  refine cwp_loop ?_
  refine wp_mono (cwp_wp (h1 ρ w R ht)) ?_
  rintro e a' w' ⟨rfl, hp⟩
  exact ⟨rfl, hp⟩
/-- The state s, seen as s2 with other names. -/
structure View (s s2 : St) (θ : Nat → Nat) : Prop where
  low : ∀ b, b < B0 → θ b = b
  base : B0 ≤ s2.nx
  tm : s.tmps.arr = s2.tmps.arr.map (ren θ)
  wf : SWf s2.tmps.arr s2.nx
  hp : ∀ b B, s2.h.get b = some B → s.h.get (θ b) = some ⟨B.cells.map (ren θ), B.T, B.op.map θ⟩
  inj : ∀ b b' B B', s2.h.get b = some B → s2.h.get b' = some B' → θ b = θ b' → b = b'
  lt : ∀ b B, s2.h.get b = some B → B0 ≤ b ∧ b < s2.nx
  hb : ∀ b B, s2.h.get b = some B → BBel s2.nx B
  fix : ∀ b, b < (default : Names).n → θ b = b
  nroot : (default : Names).n ≤ s2.nx
theorem satQ_view {θ : Nat → Nat} (v : View s s2 θ) (h : SatQ P c s2 x Q) : SatQ P c s x Q := by
  intro ρ w R ht
  have R2 : Rel (fun b => ρ (θ b)) [] s2.h s2.nx w := by
    refine ⟨fun b hb => ?_, v.base, fun b B h => (by cases h), fun b B hb => ?_, fun b b' B B' h1 h2 he => ?_, fun b b' B B' _ h2 => (by cases h2), v.lt, fun b B h => (by cases h), v.hb, fun b B h => (by cases h), R.held, fun b hb => ?_, v.nroot, fun b B hb => R.far _ _ (v.hp b B hb)⟩
    · show ρ (θ b) = b
      rw [v.low b hb]; exact R.low b hb
    · obtain ⟨junk, e1, e2⟩ := R.hat _ _ (v.hp b B hb)
      refine ⟨junk, ?_, ?_⟩
      · rw [← map_comp]; exact e1
      · cases ho : B.op with
        | none => rw [ho] at e2; exact e2
        | some k =>
          rw [ho] at e2
          simp only [Option.map_some, Array.size_map] at e2 ⊢
          exact e2
    · exact v.inj b b' B B' h1 h2 (R.inj _ _ _ _ (v.hp b B h1) (v.hp b' B' h2) he)
    · show ρ (θ b) = _
      rw [v.fix b hb]; exact R.fix b hb
  have hact : actOf ρ s.tmps.arr = actOf (fun b => ρ (θ b)) s2.tmps.arr := by
    unfold actOf; rw [v.tm, map_comp]
  rw [hact]
  refine cwp_mono (h _ w R2 v.wf) ?_
  rintro e a w' ⟨rfl, s', ρ', hq, rfl, ht', R', F⟩
  refine ⟨rfl, s', ρ', hq, rfl, ht', R', F.size, F.os, F.tape, F.output, fun b B hb => ?_, fun k hk hno => F.keep k hk fun b B hb => ?_⟩
  · rcases F.own b B hb with ⟨n, N, hn, e⟩ | hs
    · exact .inl ⟨θ n, _, v.hp n N hn, e⟩
    · exact .inr hs
  · exact hno (θ b) _ (v.hp b B hb)
end
end
noncomputable section
/-- From a function's body to its calls; its value bears no addresses. -/
theorem calls_satQK {P : Program} {c : Code} {x : Exit} {Q : St → Prop} [Inhabited Root] {f : FuncId} {fn : Func} {args : Array Value} {v : Value} (hf : P.funcs[f]? = some fn) (hb : fn.body = some c) (hle : Nat.ble (args.toList.length + (fn.ntmps - args.toList.length)) roof = true)
    (hs : SatQ P c ⟨start args.toList fn.ntmps, [], B0⟩ x Q) (hx : x = .normal ∨ x = .ret) (hv : ∀ s', Q s' → resultsA P [] fn s'.tmps s'.h = some v) (ha : args.all (bel B0) = true) (hbv : bel B0 v = true) (w : World) (hw : Held w) :
    Calls P f args w fun e w' => e = .returned v ∧ Below w.heap.size w w' := by
  have e1 : (start args.toList fn.ntmps).arr = args ++ Array.replicate (fn.ntmps - args.size) undef := by
    rw [start_arr _ _ (by rwa [Nat.ble_eq] at hle)]
    apply Array.toList_inj.1; simp
  have hargs : ∀ v ∈ args, bel B0 v = true := Array.all_eq_true_iff_forall_mem.1 ha
  have R : Rel id [] [] B0 w := Rel.initK hw
  have hst : SWf (start args.toList fn.ntmps).arr B0 := by
    rw [e1]
    intro v hv
    rcases Array.mem_append.1 hv with hv | hv
    · exact hargs v hv
    · rw [(Array.mem_replicate.1 hv).2]; exact bel_undef _
  have hact : (⟨args ++ Array.replicate (fn.ntmps - args.size) undef, []⟩ : Act) = actOf id (start args.toList fn.ntmps).arr := by
    have e2 := map_low R hargs
    rw [e1]; unfold actOf; rw [Array.map_append, Array.map_replicate, ren_undef, e2]
  refine calls_of_wp hf hb ?_
  rw [hact]
  refine wp_mono (cwp_wp (hs id w R hst)) ?_
  rintro e a' w' ⟨rfl, s', ρ', hq, rfl, ht', R', F⟩
  obtain ⟨a1, a2⟩ := run_resultsA R' ht' (hv s' hq)
  have hr : ren ρ' v = v := ren_id R'.low v hbv
  rw [hr] at a1
  have key : (actOf ρ' s'.tmps.arr).defers = [] ∧ ∃ u, (results fn (actOf ρ' s'.tmps.arr).tmps).run P w' = .ok u w' ∧ (Ending.returned u = .returned v ∧ Below w.heap.size w w') :=
    ⟨rfl, _, a1, rfl, ⟨F.os, F.tape, F.output, F.size, fun k hk => F.keep k hk fun b B h => by cases h⟩⟩
  rcases hx with rfl | rfl
  · exact key
  · exact key
end
end Go.Den

/-
  Contracts as oracles of a reading: under the root, over memory; from a reading to a call with arguments in memory.
-/
namespace Go.Den
open Go.RowKit
noncomputable section
set_option linter.unusedSectionVars false

/-- The same contract for every call of a function whose arguments are as told, wherever the root's blocks stand. -/
structure PK (P : Program) [Inhabited Root] where
  f : FuncId
  spec : Array Value → Option (Bool × Value)
  body : (P.funcs[f]?.bind (·.body)).isSome = true
  ok : ∀ args r, spec args = some r → r.1 = true → args.all (bel B0) = true ∧ bel B0 r.2 = true ∧ ∀ w, Held w → Calls P f args w fun e w' => e = .returned r.2 ∧ Below w.heap.size w w'
def PC.up {P : Program} [Inhabited Root] (c : PC P) : PK P where
  f := c.f
  spec := c.spec
  body := c.body
  ok := fun args r h k => ⟨(c.ok args r h k).1, (c.ok args r h k).2.1, fun w _ => (c.ok args r h k).2.2 w⟩
variable [Inhabited Root] [Inhabited Names]
/-- A contract over memory. -/
structure PM (P : Program) where
  f : FuncId
  orc : AHeap → Array Value → AHeap → Nat → Option (Tree VR)
  body : (P.funcs[f]?.bind (·.body)).isSome = true
  ok : ∀ g args h nx t r, orc g args h nx = some t → t.run = some r → SatCall P g f args h nx r
section
variable {P : Program} {g h : AHeap} {nx nx' : Nat} {f : FuncId} {args : Array Value}
/-- A value comes back, and nothing old turns. -/
theorem satCall_val {v : Value} (hv : bel B0 v = true) (hc : ∀ ρ w, Rel ρ g h nx w → SWf args nx → Calls P f (args.map (ren ρ)) w fun e w' => e = .returned v ∧ Below w.heap.size w w') :
    SatCall P g f args h nx ⟨v, h, nx⟩ := by
  intro ρ w R ha
  refine (hc ρ w R ha).mono ?_
  rintro e w' ⟨rfl, hb⟩
  refine ⟨ρ, by rw [ren_low R hv], bel_low R hv, R.later (fun _ _ => rfl) fun k hk => hb.block k hk,
    ⟨Nat.le_refl _, fun _ _ => rfl, fun b B hb' _ => ⟨B, hb'⟩, fun b B hb' hn => absurd (R.lt b B hb').2 (by omega), hb.size, hb.os, hb.tape, hb.output, fun k hk _ => hb.block k hk⟩⟩
/-- One new block, and nothing old turns. -/
theorem Rel.fresh {ρ ρ' : Nat → Nat} {w w' : World} {B : ABlk} (R : Rel ρ g h nx w) (hag : ∀ b, b < nx → ρ' b = ρ b) (hb : Below w.heap.size w w') (hn : nx < nx') (hB : BBel nx' B)
    (hnew : w.heap.size ≤ ρ' nx) (hat : BlkAt ρ' w' (ρ' nx) B) : Rel ρ' g (h.set nx B) nx' w' ∧ Step ρ h nx w ρ' (h.set nx B) nx' w' := by
  have hk : ∀ c, c < w.heap.size → w'.heap[c]? = w.heap[c]? := fun c hc => hb.block c hc
  have L := R.later hag hk
  have key : ∀ b C, (h.set nx B).get b = some C → (b = nx ∧ C = B) ∨ (b < nx ∧ h.get b = some C) := by
    intro b C hC
    rw [AHeap.get_set] at hC
    by_cases hx : nx = b
    · rw [if_pos hx] at hC; exact .inl ⟨hx.symm, (Option.some.inj hC).symm⟩
    · rw [if_neg hx] at hC; exact .inr ⟨(R.lt b C hC).2, hC⟩
  have hold : ∀ b C, h.get b = some C → ρ' b < w.heap.size := fun b C hC => by
    rw [hag b (R.lt b C hC).2]; exact (R.hat b C hC).lt
  have hbase := R.base
  refine ⟨⟨L.low, by omega, L.gat, fun b C hC => ?_, fun b b' C C' h1 h2 he => ?_, fun b b' C C' h1 h2 => ?_, fun b C hC => ?_, fun b C hC => by have := R.glt b C hC; omega, fun b C hC => ?_, fun b C hC => (R.gbel b C hC).mono (by omega), L.held, L.fix, by have := R.nroot; omega, fun b C hC => ?_⟩,
    ⟨by omega, hag, fun b C hC hl => ?_, fun b C hC hl => ?_, hb.size, hb.os, hb.tape, hb.output, fun c hc _ => hk c hc⟩⟩
  · rcases key b C hC with ⟨rfl, rfl⟩ | ⟨_, h1⟩
    · exact hat
    · exact L.hat b C h1
  · rcases key b C h1 with ⟨rfl, rfl⟩ | ⟨_, k1⟩ <;> rcases key b' C' h2 with ⟨rfl, rfl⟩ | ⟨_, k2⟩
    · rfl
    · have := hold b' C' k2; omega
    · have := hold b C k1; omega
    · exact L.inj b b' C C' k1 k2 he
  · rcases key b C h1 with ⟨rfl, rfl⟩ | ⟨_, k1⟩
    · have := (R.gat b' C' h2).lt
      rw [hag b' (R.glt b' C' h2)]; omega
    · exact L.dis b b' C C' k1 h2
  · rcases key b C hC with ⟨rfl, rfl⟩ | ⟨h1, k1⟩
    · omega
    · have := R.lt b C k1; omega
  · rcases key b C hC with ⟨rfl, rfl⟩ | ⟨_, k1⟩
    · exact hB
    · exact (R.hbel b C k1).mono (by omega)
  · rcases key b C hC with ⟨rfl, rfl⟩ | ⟨_, k1⟩
    · exact Nat.le_trans R.held.size hnew
    · exact L.far b C k1
  · rcases key b C hC with ⟨rfl, rfl⟩ | ⟨_, k1⟩
    · omega
    · exact ⟨C, k1⟩
  · rcases key b C hC with ⟨rfl, rfl⟩ | ⟨h1, k1⟩
    · exact hnew
    · omega
theorem satCall_fresh {v : Value} {B : ABlk} (hn : nx < nx') (hv : B0 ≤ nx → bel nx' v = true) (hB : B0 ≤ nx → BBel nx' B)
    (hc : ∀ ρ w, Rel ρ g h nx w → SWf args nx → Calls P f (args.map (ren ρ)) w fun e w' => ∃ ρ', (∀ b, b < nx → ρ' b = ρ b) ∧ e = .returned (ren ρ' v) ∧ Below w.heap.size w w' ∧ w.heap.size ≤ ρ' nx ∧ BlkAt ρ' w' (ρ' nx) B) :
    SatCall P g f args h nx ⟨v, h.set nx B, nx'⟩ := by
  intro ρ w R ha
  refine (hc ρ w R ha).mono ?_
  rintro e w' ⟨ρ', hag, rfl, hb, hnew, hat⟩
  obtain ⟨R', S⟩ := R.fresh hag hb hn (hB R.base) hnew hat
  exact ⟨ρ', rfl, hv R.base, R', S⟩
end
def PK.mem {P : Program} (c : PK P) : PM P where
  f := c.f
  orc := fun _ args h nx => match c.spec args with
    | some q => some (.br q.1 (.leaf ⟨q.2, h, nx⟩) .fail)
    | none => none
  body := c.body
  ok := fun g args h nx t r ho hr => by
    split at ho
    · rename_i q hq
      cases ho
      obtain ⟨hok, hr⟩ := Tree.run_guard hr
      cases hr
      obtain ⟨h1, h2, h3⟩ := c.ok args q hq hok
      refine satCall_val h2 fun ρ w R ha => ?_
      rw [map_low R (Array.all_eq_true_iff_forall_mem.1 h1)]
      exact h3 w R.held
    · cases ho
def orcM {P : Program} : List (PM P) → AHeap → FuncId → Array Value → AHeap → Nat → Option (Tree VR)
  | [], _, _, _, _, _ => none
  | c :: r, g, f, args, h, nx => bif Nat.beq c.f f then
      match c.orc g args h nx with
      | some q => some q
      | none => orcM r g f args h nx
    else orcM r g f args h nx
theorem orcM_sound {P : Program} {g h : AHeap} {nx : Nat} : ∀ (l : List (PM P)) (f : FuncId) (args : Array Value) (t : Tree VR) (r : VR), orcM l g f args h nx = some t → t.run = some r →
    SatCall P g f args h nx r ∧ (P.funcs[f]?.bind (·.body)).isSome = true
  | [], _, _, _, _, ho, _ => by cases ho
  | c :: l, f, args, t, r, ho, hr => by
    unfold orcM at ho
    simp only [cond_eq_ite, Nat.beq_eq] at ho
    split at ho
    · rename_i hf
      subst hf
      split at ho
      · rename_i q hq
        cases ho
        exact ⟨c.ok g args h nx _ r hq hr, c.body⟩
      · exact orcM_sound l _ args t r ho hr
    · exact orcM_sound l f args t r ho hr
/-- The same reading with contracts over memory as its oracles. -/
def Env.mem {P : Program} (E : Env P) (fr : Bool) (l : List (PM P)) : Env P :=
  { E with
    frc := fr
    orc := fun g f args h nx => orcM l g f args h nx
    horc := fun _ f args _ _ t r ho hr => orcM_sound l f args t r ho hr }
/-- One way through a reading: which side is taken at each parting; what was asked there, and what it comes to. -/
def Tree.path (t : Tree VR) : List Bool → Option (List Bool × Value) :=
  Tree.rec (motive := fun _ => List Bool → Option (List Bool × Value)) (fun a _ => some ([], a.v))
    (fun b _ _ iht ihf l => List.rec (motive := fun _ => Option (List Bool × Value)) none (fun c r _ => Option.rec (motive := fun _ => Option (List Bool × Value)) none (fun p => some (b :: p.1, p.2)) (Bool.casesOn (motive := fun _ => Option (List Bool × Value)) c (ihf r) (iht r))) l)
    (fun _ => none) t
theorem Tree.path_run {v : Value} : ∀ {t : Tree VR} {l cs : List Bool}, t.path l = some (cs, v) → cs = l → ∃ r, t.run = some r ∧ r.v = v := by
  intro t
  induction t with
  | leaf a => intro l cs h _; cases h; exact ⟨a, rfl, rfl⟩
  | br b x y ihx ihy =>
    intro l cs h he
    cases l with
    | nil => cases h
    | cons c r =>
      change Option.rec (motive := fun _ => Option (List Bool × Value)) none (fun p => some (b :: p.1, p.2)) (Bool.casesOn (motive := fun _ => Option (List Bool × Value)) c (y.path r) (x.path r)) = some (cs, v) at h
      cases c
      · cases hp : y.path r with
        | none => simp only [hp] at h; cases h
        | some p =>
          simp only [hp] at h
          cases h
          obtain ⟨h1, h2⟩ := List.cons.inj he
          subst h1
          exact ihy (by rw [hp]) h2
      · cases hp : x.path r with
        | none => simp only [hp] at h; cases h
        | some p =>
          simp only [hp] at h
          cases h
          obtain ⟨h1, h2⟩ := List.cons.inj he
          subst h1
          exact ihx (by rw [hp]) h2
  | fail => intro l cs h _; cases h
theorem Tree.path_holds {v : Value} {t : Tree VR} {l cs : List Bool} (h : t.path l = some (cs, v)) (he : cs = l) : t.holds fun r => r.v = v := by
  obtain ⟨r, h1, h2⟩ := Tree.path_run h he
  exact Tree.holds_in h1 h2
/-- From a reading to a call with arguments in memory. -/
theorem calls_law {P : Program} (E : Env P) (hcok : ∀ (f : Nat) fn c, P.funcs[f]? = some fn → fn.body = some c → cok c = true) (n : Nat) {f : FuncId} {args : Array Value} {v : Value} {nx : Nat}
    (hr : ((ev E n).call [] f args [] nx).holds fun r => r.v = v) (hv : bel B0 v = true) (hb : B0 ≤ nx) (hl : ∀ b, b < B0 → (default : Names).ρ b = b) (hn : (default : Names).n ≤ nx) (ha : SWf args nx) (w : World) (hw : Held w) :
    Calls P f (args.map (ren (default : Names).ρ)) w fun e w' => e = .returned v ∧ Below w.heap.size w w' := by
  obtain ⟨r, h1, h2⟩ := Tree.holds_out hr
  obtain ⟨h3, _⟩ := (ev_sound E hcok n).call _ _ _ _ _ _ h1
  have R : Rel (default : Names).ρ [] [] nx w := Rel.start hl hb hw (fun _ _ => rfl) hn
  refine (h3 _ w R ha).mono ?_
  rintro e w' ⟨ρ', rfl, hb', R', S⟩
  rw [h2, ren_id R'.low v hv]
  exact ⟨rfl, ⟨S.os, S.tape, S.output, S.size, fun k hk => S.none_keep k hk⟩⟩
end
end Go.Den




namespace Go.Den

open Go.Proofs

set_option maxRecDepth 100000

set_option linter.unusedSectionVars false

variable [Inhabited Root] [Inhabited Names]

theorem hmixT : Tryz.prog.follows .mixedOrders = true := by kernel_rfl
theorem hngT : (Tryz.prog.funcs.all fun fn => !(fn.name == "runtime.NumGoroutine")) = true := by kernel_rfl
theorem hcokT : (Tryz.prog.funcs.all fun fn => match fn.body with | some c => cok c | none => true) = true := by kernel_rfl
/-- The types whose values may be compared. -/
def soL : List Nat := [125]
theorem soAll : (soL.all fun t => !Tryz.prog.stoodInHeld t && !Tryz.prog.eqGuardType Tryz.prog.depth t) = true := by kernel_rfl
noncomputable def envF (fr : Bool) : Env Tryz.prog where
  frc := fr
  so := fun t => soL.any (Nat.beq t)
  hso := fun t h => by
    obtain ⟨u, hu, hb⟩ := List.any_eq_true.1 h
    rw [Nat.beq_eq] at hb
    subst hb
    have := List.all_eq_true.1 soAll _ hu
    rw [Bool.and_eq_true, Bool.not_eq_true', Bool.not_eq_true'] at this
    exact this
  hmix := hmixT
  hng := fun f fn hf => by have := eq_of_all hngT hf; simpa using this
  ext := fun f args => bif Nat.beq f 93 then add64A args else bif Nat.beq f 108 then sub64A args else none
  hext := fun f args r hr hok => by
    simp only [cond_eq_ite, Nat.beq_eq] at hr
    split at hr
    · rename_i h; subst h
      exact add64_ext Tryz.func93 (by kernel_rfl) (by kernel_rfl) (by kernel_rfl) (by kernel_rfl) hr hok
    · split at hr
      · rename_i h; subst h
        exact sub64_ext Tryz.func108 (by kernel_rfl) (by kernel_rfl) (by kernel_rfl) (by kernel_rfl) hr hok
      · cases hr
  orc := fun _ _ _ _ _ => none
  horc := fun _ _ _ _ _ _ _ h => by cases h
noncomputable abbrev envT : Env Tryz.prog := envF true
noncomputable abbrev envS : Env Tryz.prog := envF false
theorem hcokP (f : Nat) (fn : Func) (c : Code) (hf : Tryz.prog.funcs[f]? = some fn) (hb : fn.body = some c) : cok c = true := by
  have := eq_of_all hcokT hf
  rw [hb] at this; exact this
end Go.Den


/-
  Contracts of the small functions of package wide.
-/




namespace Go.Proofs.YtidkpdabidlnnaaGreatDoor

set_option maxRecDepth 100000

open Go.RowKit

theorem run_add64 (x y c : Int) (hx : 0 ≤ x) (hy : 0 ≤ y) (hc0 : 0 ≤ c) (hc : c ≤ 1) (w : World) :
    (callFunc 93 #[.int .u64 x, .int .u64 y, .int .u64 c]).run Tryz.prog w =
      .ok (.value (.tuple #[.int .u64 ((x + y + c) % 18446744073709551616), .int .u64 ((x + y + c) / 18446744073709551616)])) w := by
  rw [run_callFunc_extern Tryz.func93 (by kernel_rfl) (by kernel_rfl) (by kernel_rfl) (e := add64Entry) (by kernel_rfl), Go.run_add64 x y c hx hy hc0 hc]
  rfl

set_option maxHeartbeats 400000 in
theorem negative_any (h l : Int) (w : World) :
    Calls Tryz.prog 78 #[.agg #[.int .i64 h, .int .u64 l]] w fun e w' => e = .returned (.bool (decide (h < 0))) ∧ Below w.heap.size w w' := by
  go_enter Tryz.func78, Tryz.ntmps78
  go_wp2
  go_ret
  exact ⟨rfl, (Below.refl _ _).alloc (Nat.le_refl _) _⟩

theorem negative_yes {h : Int} (l : Int) (hh : h < 0) (w : World) :
    Calls Tryz.prog 78 #[.agg #[.int .i64 h, .int .u64 l]] w fun e w' => e = .returned (.bool true) ∧ Below w.heap.size w w' := by
  have := negative_any h l w; rwa [decide_eq_true hh] at this
theorem negative_no {h : Int} (l : Int) (hh : ¬ h < 0) (w : World) :
    Calls Tryz.prog 78 #[.agg #[.int .i64 h, .int .u64 l]] w fun e w' => e = .returned (.bool false) ∧ Below w.heap.size w w' := by
  have := negative_any h l w; rwa [decide_eq_false hh] at this

theorem ret_w {h l h' l' : Int} (e1 : h = h') (e2 : l = l') : Ending.returned (.agg #[.int .i64 h, .int .u64 l]) = .returned (.agg #[.int .i64 h', .int .u64 l']) := by rw [e1, e2]

set_option maxHeartbeats 400000 in
theorem of_any (n : Int) (h0 : -9223372036854775808 ≤ n) (h1 : n ≤ 9223372036854775807) (w : World) :
    Calls Tryz.prog 57 #[.int .i64 n] w fun e w' => e = .returned (.agg #[.int .i64 (hi n), .int .u64 (lo n)]) ∧ Below w.heap.size w w' := by
  go_enter Tryz.func57, Tryz.ntmps57
  go_wp2
  refine bodyPost_ret (v := .agg #[.int .i64 (n / 9223372036854775808), .int .u64 (IntKind.u64.wrap n)]) (by simp [results, Tryz.results57, go_sem]) rfl ⟨?_, (Below.refl _ _).alloc (Nat.le_refl _) _⟩
  refine ret_w (by unfold hi; omega) (by rw [IntKind.wrap_u64]; unfold lo; omega)

set_option maxHeartbeats 400000 in
theorem bound_low (w : World) :
    Calls Tryz.prog 94 #[.bool true] w fun e w' => e = .returned (.agg #[.int .i64 (-9223372036854775808), .int .u64 0]) ∧ Below w.heap.size w w' := by
  go_enter Tryz.func94, Tryz.ntmps94
  go_wp2
  exact bodyPost_ret (v := .agg #[.int .i64 (-9223372036854775808), .int .u64 0]) (by simp [results, Tryz.results94, go_sem]) rfl ⟨rfl, (Below.refl _ _).alloc (Nat.le_refl _) _⟩
set_option maxHeartbeats 400000 in
theorem bound_high (w : World) :
    Calls Tryz.prog 94 #[.bool false] w fun e w' => e = .returned (.agg #[.int .i64 9223372036854775807, .int .u64 18446744073709551615]) ∧ Below w.heap.size w w' := by
  go_enter Tryz.func94, Tryz.ntmps94
  go_wp2
  exact bodyPost_ret (v := .agg #[.int .i64 9223372036854775807, .int .u64 18446744073709551615]) (by simp [results, Tryz.results94, go_sem]) rfl ⟨rfl, (Below.refl _ _).alloc (Nat.le_refl _) _⟩

theorem add_fits {h1 l1 h2 l2 s : Int} (a0 : 0 ≤ l1) (a1 : l1 ≤ 18446744073709551615) (b0 : 0 ≤ l2) (b1 : l2 ≤ 18446744073709551615)
    (c0 : -9223372036854775808 ≤ h1) (c1 : h1 ≤ 9223372036854775807) (d0 : -9223372036854775808 ≤ h2) (d1 : h2 ≤ 9223372036854775807)
    (hs : wrap64 (wrap64 (h1 + h2) + (l1 + l2) / 18446744073709551616) = s) (h : (h1 < 0 ∧ 0 ≤ h2) ∨ (0 ≤ h1 ∧ h2 < 0) ∨ (h1 < 0 ∧ h2 < 0 ∧ s < 0) ∨ (0 ≤ h1 ∧ 0 ≤ h2 ∧ 0 ≤ s)) :
    s = hi (clamp (h1 * 18446744073709551616 + l1 + (h2 * 18446744073709551616 + l2))) ∧ (l1 + l2) % 18446744073709551616 = lo (clamp (h1 * 18446744073709551616 + l1 + (h2 * 18446744073709551616 + l2))) := by
  simp only [wrap64] at hs
  rw [clamp_of (by unfold InR; omega)]
  unfold hi lo; omega
theorem add_low {h1 l1 h2 l2 s : Int} (a0 : 0 ≤ l1) (a1 : l1 ≤ 18446744073709551615) (b0 : 0 ≤ l2) (b1 : l2 ≤ 18446744073709551615)
    (c0 : -9223372036854775808 ≤ h1) (d0 : -9223372036854775808 ≤ h2)
    (hs : wrap64 (wrap64 (h1 + h2) + (l1 + l2) / 18446744073709551616) = s) (g1 : h1 < 0) (g2 : h2 < 0) (g3 : 0 ≤ s) :
    -9223372036854775808 = hi (clamp (h1 * 18446744073709551616 + l1 + (h2 * 18446744073709551616 + l2))) ∧ 0 = lo (clamp (h1 * 18446744073709551616 + l1 + (h2 * 18446744073709551616 + l2))) := by
  simp only [wrap64] at hs
  have : clamp (h1 * 18446744073709551616 + l1 + (h2 * 18446744073709551616 + l2)) = -170141183460469231731687303715884105728 := by
    unfold clamp; rw [if_pos (by omega)]
  rw [this]; unfold hi lo; omega
theorem add_high {h1 l1 h2 l2 s : Int} (a0 : 0 ≤ l1) (a1 : l1 ≤ 18446744073709551615) (b0 : 0 ≤ l2) (b1 : l2 ≤ 18446744073709551615)
    (c1 : h1 ≤ 9223372036854775807) (d1 : h2 ≤ 9223372036854775807)
    (hs : wrap64 (wrap64 (h1 + h2) + (l1 + l2) / 18446744073709551616) = s) (g1 : 0 ≤ h1) (g2 : 0 ≤ h2) (g3 : s < 0) :
    9223372036854775807 = hi (clamp (h1 * 18446744073709551616 + l1 + (h2 * 18446744073709551616 + l2))) ∧ 18446744073709551615 = lo (clamp (h1 * 18446744073709551616 + l1 + (h2 * 18446744073709551616 + l2))) := by
  simp only [wrap64] at hs
  have : clamp (h1 * 18446744073709551616 + l1 + (h2 * 18446744073709551616 + l2)) = 170141183460469231731687303715884105727 := by
    unfold clamp; rw [if_neg (by omega), if_pos (by omega)]
  rw [this]; unfold hi lo; omega

/-- The same for differences. -/
theorem sub_fits {h1 l1 h2 l2 bw s : Int} (a0 : 0 ≤ l1) (a1 : l1 ≤ 18446744073709551615) (b0 : 0 ≤ l2) (b1 : l2 ≤ 18446744073709551615)
    (c0 : -9223372036854775808 ≤ h1) (c1 : h1 ≤ 9223372036854775807) (d0 : -9223372036854775808 ≤ h2) (d1 : h2 ≤ 9223372036854775807)
    (hs : wrap64 (wrap64 (h1 - h2) - bw) = s) (hb : bw = if l1 < l2 then 1 else 0) (h : (h1 < 0 ∧ h2 < 0) ∨ (0 ≤ h1 ∧ 0 ≤ h2) ∨ (h1 < 0 ∧ 0 ≤ h2 ∧ s < 0) ∨ (0 ≤ h1 ∧ h2 < 0 ∧ 0 ≤ s)) :
    s = hi (clamp (h1 * 18446744073709551616 + l1 - (h2 * 18446744073709551616 + l2))) ∧ (l1 + 18446744073709551616 - l2) % 18446744073709551616 = lo (clamp (h1 * 18446744073709551616 + l1 - (h2 * 18446744073709551616 + l2))) := by
  simp only [wrap64] at hs
  rw [clamp_of (by unfold InR; split at hb <;> omega)]
  unfold hi lo; split at hb <;> omega
theorem sub_low {h1 l1 h2 l2 bw s : Int} (a0 : 0 ≤ l1) (a1 : l1 ≤ 18446744073709551615) (b0 : 0 ≤ l2) (b1 : l2 ≤ 18446744073709551615)
    (c0 : -9223372036854775808 ≤ h1) (d1 : h2 ≤ 9223372036854775807)
    (hs : wrap64 (wrap64 (h1 - h2) - bw) = s) (hb : bw = if l1 < l2 then 1 else 0) (g1 : h1 < 0) (g2 : 0 ≤ h2) (g3 : 0 ≤ s) :
    -9223372036854775808 = hi (clamp (h1 * 18446744073709551616 + l1 - (h2 * 18446744073709551616 + l2))) ∧ 0 = lo (clamp (h1 * 18446744073709551616 + l1 - (h2 * 18446744073709551616 + l2))) := by
  simp only [wrap64] at hs
  have : clamp (h1 * 18446744073709551616 + l1 - (h2 * 18446744073709551616 + l2)) = -170141183460469231731687303715884105728 := by
    unfold clamp; split at hb <;> rw [if_pos (by omega)]
  rw [this]; unfold hi lo; omega
theorem sub_high {h1 l1 h2 l2 bw s : Int} (a0 : 0 ≤ l1) (a1 : l1 ≤ 18446744073709551615) (b0 : 0 ≤ l2) (b1 : l2 ≤ 18446744073709551615)
    (c1 : h1 ≤ 9223372036854775807) (d0 : -9223372036854775808 ≤ h2)
    (hs : wrap64 (wrap64 (h1 - h2) - bw) = s) (hb : bw = if l1 < l2 then 1 else 0) (g1 : 0 ≤ h1) (g2 : h2 < 0) (g3 : s < 0) :
    9223372036854775807 = hi (clamp (h1 * 18446744073709551616 + l1 - (h2 * 18446744073709551616 + l2))) ∧ 18446744073709551615 = lo (clamp (h1 * 18446744073709551616 + l1 - (h2 * 18446744073709551616 + l2))) := by
  simp only [wrap64] at hs
  have : clamp (h1 * 18446744073709551616 + l1 - (h2 * 18446744073709551616 + l2)) = 170141183460469231731687303715884105727 := by
    unfold clamp; split at hb <;> rw [if_neg (by omega), if_pos (by omega)]
  rw [this]; unfold hi lo; omega


set_option maxHeartbeats 4000000 in
theorem add_any (h1 l1 h2 l2 : Int) (a0 : 0 ≤ l1) (a1 : l1 ≤ 18446744073709551615) (b0 : 0 ≤ l2) (b1 : l2 ≤ 18446744073709551615)
    (c0 : -9223372036854775808 ≤ h1) (c1 : h1 ≤ 9223372036854775807) (d0 : -9223372036854775808 ≤ h2) (d1 : h2 ≤ 9223372036854775807) (w : World) :
    Calls Tryz.prog 75 #[.agg #[.int .i64 h1, .int .u64 l1], .agg #[.int .i64 h2, .int .u64 l2]] w fun e w' =>
      e = .returned (.agg #[.int .i64 (hi (clamp (h1 * 18446744073709551616 + l1 + (h2 * 18446744073709551616 + l2)))), .int .u64 (lo (clamp (h1 * 18446744073709551616 + l1 + (h2 * 18446744073709551616 + l2))))]) ∧ Below w.heap.size w w' := by
  skip
  have hadd := fun w => run_add64 l1 l2 0 a0 b0 (by omega) (by omega) w
  have q1 := fun (w' : World) (h : Blk w' w.heap.size #[.int .i64 h1, .int .u64 l1] 125) => h.two
  have q2 := fun (w' : World) (h : Blk w' (w.heap.size + 1) #[.int .i64 h2, .int .u64 l2] 125) => h.two
  have q3 := fun (w' : World) (h : Blk w' (w.heap.size + 1 + 1) #[.int .i64 0, .int .u64 0] 125) => h.two
  have q4 := fun (w' : World) (h : Blk w' (w.heap.size + 1 + 1) #[.int .i64 0, .int .u64 0] 125) => h.free0
  skip
  rcases hd1 : decide (h1 < 0) with _ | _ <;> rcases hd2 : decide (h2 < 0) with _ | _
  · skip
    go_enter Tryz.func75, Tryz.ntmps75
    go_wp2
    generalize hs : wrap64 (wrap64 (h1 + h2) + (l1 + l2) / 18446744073709551616) = s
    have Hs := Lib.hid hs; clear hs
    rcases hd3 : decide (s < 0) with _ | _
    · skip
      refine wp_region_held_drew (S := (fun w' => Blk w' w.heap.size #[.int .i64 h1, .int .u64 l1] 125 ∧ Blk w' (w.heap.size + 1) #[.int .i64 h2, .int .u64 l2] 125 ∧ Blk w' (w.heap.size + 1 + 1) #[.int .i64 0, .int .u64 0] 125 ∧ Below w.heap.size w w')) (by kernel_rfl) ?_ (fun hHeld => ?_)
      · exact ⟨(((Blk.new rfl).old _).old _).drew, ((Blk.new (by simp)).old _).drew, (Blk.new (by simp)).drew, ((((Below.refl _ _).alloc (Nat.le_refl _) _).alloc (by simp) _).alloc (by simp; omega) _).drew⟩
      refine H.take 0 (v := ?_) rfl (by kernel_rfl) (fun _ _ _ h => h) (by rfl) ?_ (by assumption) ?_
      rotate_left
      · (intro wz hSw; (try dsimp only at hSw); go_simp <;> with_reducible rfl)
      try simp only [Act.put, List.setIfInBounds_toArray, List.set_cons_zero, List.set_cons_succ]
      refine H.take 2 (v := ?_) rfl (by kernel_rfl) (fun _ _ _ h => h) (by rfl) ?_ (by assumption) ?_
      rotate_left
      · (intro wz hSw; (try dsimp only at hSw); go_simp <;> with_reducible rfl)
      try simp only [Act.put, List.setIfInBounds_toArray, List.set_cons_zero, List.set_cons_succ]
      refine H.ready [1] (by kernel_rfl) (by simp) ?_
      refine H.one rfl (by rfl) (fun K hK => ?_) AllReadyH.nil
      go_simp
      go_at_call 78
      refine (negative_any _ _ _).mono ?_
      rintro e w' ⟨rfl, hb⟩
      refine hK.out _ _ ?_ (fun hHeld2 => ?_)
      · exact ⟨Blk.keep hb hHeld.1, Blk.keep hb hHeld.2.1, Blk.keep hb hHeld.2.2.1, hHeld.2.2.2.trans (hb.mono hHeld.2.2.2.size)⟩
      clear hHeld hK K; have hHeld := hHeld2; clear hHeld2
      try simp only [Act.put, List.setIfInBounds_toArray, List.set_cons_zero, List.set_cons_succ]
      refine H.ready [3] (by kernel_rfl) (by simp) ?_
      refine H.one rfl (by rfl) (fun K hK => ?_) AllReadyH.nil
      go_simp
      go_at_call 78
      refine (negative_any _ _ _).mono ?_
      rintro e w' ⟨rfl, hb⟩
      refine hK.out _ _ ?_ (fun hHeld2 => ?_)
      · exact ⟨Blk.keep hb hHeld.1, Blk.keep hb hHeld.2.1, Blk.keep hb hHeld.2.2.1, hHeld.2.2.2.trans (hb.mono hHeld.2.2.2.size)⟩
      clear hHeld hK K; have hHeld := hHeld2; clear hHeld2
      try simp only [Act.put, List.setIfInBounds_toArray, List.set_cons_zero, List.set_cons_succ]
      refine H.take 4 (v := ?_) rfl (by kernel_rfl) (fun _ _ _ h => h) (by rfl) ?_ (by assumption) ?_
      rotate_left
      · (intro wz hSw; (try dsimp only at hSw); go_simp <;> with_reducible rfl)
      try simp only [Act.put, List.setIfInBounds_toArray, List.set_cons_zero, List.set_cons_succ]
      refine H.take 5 (v := ?_) rfl (by kernel_rfl) (fun _ _ _ h => h) (by rfl) ?_ (by assumption) ?_
      rotate_left
      · (intro wz hSw; (try dsimp only at hSw); go_simp <;> with_reducible rfl)
      try simp only [Act.put, List.setIfInBounds_toArray, List.set_cons_zero, List.set_cons_succ]
      refine H.take 6 (v := ?_) rfl (by kernel_rfl) (fun _ _ _ h => h) (by rfl) ?_ (by assumption) ?_
      rotate_left
      · (intro wz hSw; (try dsimp only at hSw); go_simp <;> with_reducible rfl)
      try simp only [Act.put, List.setIfInBounds_toArray, List.set_cons_zero, List.set_cons_succ]
      refine H.take 7 (v := ?_) rfl (by kernel_rfl) (fun _ _ _ h => h) (by rfl) ?_ (by assumption) ?_
      rotate_left
      · (intro wz hSw; (try dsimp only at hSw); go_simp <;> with_reducible rfl)
      try simp only [Act.put, List.setIfInBounds_toArray, List.set_cons_zero, List.set_cons_succ]
      refine H.take 8 (v := ?_) rfl (by kernel_rfl) (fun _ _ _ h => h) (by rfl) ?_ (by assumption) ?_
      rotate_left
      · (intro wz hSw; (try dsimp only at hSw); go_simp <;> with_reducible rfl)
      try simp only [Act.put, List.setIfInBounds_toArray, List.set_cons_zero, List.set_cons_succ]
      refine H.ready [9] (by kernel_rfl) (by simp) ?_
      refine H.one rfl (by rfl) (fun K hK => ?_) AllReadyH.nil
      go_simp
      go_at_call 78
      refine (negative_any _ _ _).mono ?_
      rintro e w' ⟨rfl, hb⟩
      refine hK.out _ _ ?_ (fun hHeld2 => ?_)
      · exact ⟨Blk.keep hb hHeld.1, Blk.keep hb hHeld.2.1, Blk.keep hb hHeld.2.2.1, hHeld.2.2.2.trans (hb.mono hHeld.2.2.2.size)⟩
      clear hHeld hK K; have hHeld := hHeld2; clear hHeld2
      try simp only [Act.put, List.setIfInBounds_toArray, List.set_cons_zero, List.set_cons_succ]
      refine H.take 10 (v := ?_) rfl (by kernel_rfl) (fun _ _ _ h => h) (by rfl) ?_ (by assumption) ?_
      rotate_left
      · (intro wz hSw; (try dsimp only at hSw); go_simp <;> with_reducible rfl)
      try simp only [Act.put, List.setIfInBounds_toArray, List.set_cons_zero, List.set_cons_succ]
      refine H.take 11 (v := ?_) rfl (by kernel_rfl) (fun _ _ _ h => h) (by rfl) ?_ (by assumption) ?_
      rotate_left
      · (intro wz hSw; (try dsimp only at hSw); go_simp <;> with_reducible rfl)
      try simp only [Act.put, List.setIfInBounds_toArray, List.set_cons_zero, List.set_cons_succ]
      refine H.done (by kernel_rfl) ?_ _
      obtain ⟨g1, g2, g3, g4⟩ := hHeld
      have e1 := of_decide_eq_false hd1; have e2 := of_decide_eq_false hd2
      go_wp2_with (first | (go_at_call 78; refine (negative_any _ _ _).mono ?_; rintro e w' ⟨rfl, hb⟩; replace g3 := Blk.keep hb g3; replace g4 := g4.trans (hb.mono g4.size)) | (go_at_call 94; refine (bound_low _).mono ?_; rintro e w' ⟨rfl, hb⟩; replace g3 := Blk.keep hb g3; replace g4 := g4.trans (hb.mono g4.size)) | (go_at_call 94; refine (bound_high _).mono ?_; rintro e w' ⟨rfl, hb⟩; replace g3 := Blk.keep hb g3; replace g4 := g4.trans (hb.mono g4.size)))
      have e3 := of_decide_eq_false hd3
      have hfin := (g3.put (i := 0) (.int .i64 s)).put (i := 1) (.int .u64 ((l1 + l2) % 18446744073709551616))
      have hres := add_fits a0 a1 b0 b1 c0 c1 d0 d1 Hs.out (by omega)
      exact bodyPost_ret (v := .agg #[.int .i64 s, .int .u64 ((l1 + l2) % 18446744073709551616)]) (by simp [results, Tryz.results75, go_sem, (show Blk _ _ #[.int .i64 s, .int .u64 ((l1 + l2) % 18446744073709551616)] _ from hfin).two]) rfl ⟨ret_w hres.1 hres.2, (g4.setCell (by simp; omega) _).setCell (by simp; omega) _⟩
    · skip
      refine wp_region_held_drew (S := (fun w' => Blk w' w.heap.size #[.int .i64 h1, .int .u64 l1] 125 ∧ Blk w' (w.heap.size + 1) #[.int .i64 h2, .int .u64 l2] 125 ∧ Blk w' (w.heap.size + 1 + 1) #[.int .i64 0, .int .u64 0] 125 ∧ Below w.heap.size w w')) (by kernel_rfl) ?_ (fun hHeld => ?_)
      · exact ⟨(((Blk.new rfl).old _).old _).drew, ((Blk.new (by simp)).old _).drew, (Blk.new (by simp)).drew, ((((Below.refl _ _).alloc (Nat.le_refl _) _).alloc (by simp) _).alloc (by simp; omega) _).drew⟩
      refine H.take 0 (v := ?_) rfl (by kernel_rfl) (fun _ _ _ h => h) (by rfl) ?_ (by assumption) ?_
      rotate_left
      · (intro wz hSw; (try dsimp only at hSw); go_simp <;> with_reducible rfl)
      try simp only [Act.put, List.setIfInBounds_toArray, List.set_cons_zero, List.set_cons_succ]
      refine H.take 2 (v := ?_) rfl (by kernel_rfl) (fun _ _ _ h => h) (by rfl) ?_ (by assumption) ?_
      rotate_left
      · (intro wz hSw; (try dsimp only at hSw); go_simp <;> with_reducible rfl)
      try simp only [Act.put, List.setIfInBounds_toArray, List.set_cons_zero, List.set_cons_succ]
      refine H.ready [1] (by kernel_rfl) (by simp) ?_
      refine H.one rfl (by rfl) (fun K hK => ?_) AllReadyH.nil
      go_simp
      go_at_call 78
      refine (negative_any _ _ _).mono ?_
      rintro e w' ⟨rfl, hb⟩
      refine hK.out _ _ ?_ (fun hHeld2 => ?_)
      · exact ⟨Blk.keep hb hHeld.1, Blk.keep hb hHeld.2.1, Blk.keep hb hHeld.2.2.1, hHeld.2.2.2.trans (hb.mono hHeld.2.2.2.size)⟩
      clear hHeld hK K; have hHeld := hHeld2; clear hHeld2
      try simp only [Act.put, List.setIfInBounds_toArray, List.set_cons_zero, List.set_cons_succ]
      refine H.ready [3] (by kernel_rfl) (by simp) ?_
      refine H.one rfl (by rfl) (fun K hK => ?_) AllReadyH.nil
      go_simp
      go_at_call 78
      refine (negative_any _ _ _).mono ?_
      rintro e w' ⟨rfl, hb⟩
      refine hK.out _ _ ?_ (fun hHeld2 => ?_)
      · exact ⟨Blk.keep hb hHeld.1, Blk.keep hb hHeld.2.1, Blk.keep hb hHeld.2.2.1, hHeld.2.2.2.trans (hb.mono hHeld.2.2.2.size)⟩
      clear hHeld hK K; have hHeld := hHeld2; clear hHeld2
      try simp only [Act.put, List.setIfInBounds_toArray, List.set_cons_zero, List.set_cons_succ]
      refine H.take 4 (v := ?_) rfl (by kernel_rfl) (fun _ _ _ h => h) (by rfl) ?_ (by assumption) ?_
      rotate_left
      · (intro wz hSw; (try dsimp only at hSw); go_simp <;> with_reducible rfl)
      try simp only [Act.put, List.setIfInBounds_toArray, List.set_cons_zero, List.set_cons_succ]
      refine H.take 5 (v := ?_) rfl (by kernel_rfl) (fun _ _ _ h => h) (by rfl) ?_ (by assumption) ?_
      rotate_left
      · (intro wz hSw; (try dsimp only at hSw); go_simp <;> with_reducible rfl)
      try simp only [Act.put, List.setIfInBounds_toArray, List.set_cons_zero, List.set_cons_succ]
      refine H.take 6 (v := ?_) rfl (by kernel_rfl) (fun _ _ _ h => h) (by rfl) ?_ (by assumption) ?_
      rotate_left
      · (intro wz hSw; (try dsimp only at hSw); go_simp <;> with_reducible rfl)
      try simp only [Act.put, List.setIfInBounds_toArray, List.set_cons_zero, List.set_cons_succ]
      refine H.take 7 (v := ?_) rfl (by kernel_rfl) (fun _ _ _ h => h) (by rfl) ?_ (by assumption) ?_
      rotate_left
      · (intro wz hSw; (try dsimp only at hSw); go_simp <;> with_reducible rfl)
      try simp only [Act.put, List.setIfInBounds_toArray, List.set_cons_zero, List.set_cons_succ]
      refine H.take 8 (v := ?_) rfl (by kernel_rfl) (fun _ _ _ h => h) (by rfl) ?_ (by assumption) ?_
      rotate_left
      · (intro wz hSw; (try dsimp only at hSw); go_simp <;> with_reducible rfl)
      try simp only [Act.put, List.setIfInBounds_toArray, List.set_cons_zero, List.set_cons_succ]
      refine H.ready [9] (by kernel_rfl) (by simp) ?_
      refine H.one rfl (by rfl) (fun K hK => ?_) AllReadyH.nil
      go_simp
      go_at_call 78
      refine (negative_any _ _ _).mono ?_
      rintro e w' ⟨rfl, hb⟩
      refine hK.out _ _ ?_ (fun hHeld2 => ?_)
      · exact ⟨Blk.keep hb hHeld.1, Blk.keep hb hHeld.2.1, Blk.keep hb hHeld.2.2.1, hHeld.2.2.2.trans (hb.mono hHeld.2.2.2.size)⟩
      clear hHeld hK K; have hHeld := hHeld2; clear hHeld2
      try simp only [Act.put, List.setIfInBounds_toArray, List.set_cons_zero, List.set_cons_succ]
      refine H.take 10 (v := ?_) rfl (by kernel_rfl) (fun _ _ _ h => h) (by rfl) ?_ (by assumption) ?_
      rotate_left
      · (intro wz hSw; (try dsimp only at hSw); go_simp <;> with_reducible rfl)
      try simp only [Act.put, List.setIfInBounds_toArray, List.set_cons_zero, List.set_cons_succ]
      refine H.take 11 (v := ?_) rfl (by kernel_rfl) (fun _ _ _ h => h) (by rfl) ?_ (by assumption) ?_
      rotate_left
      · (intro wz hSw; (try dsimp only at hSw); go_simp <;> with_reducible rfl)
      try simp only [Act.put, List.setIfInBounds_toArray, List.set_cons_zero, List.set_cons_succ]
      refine H.done (by kernel_rfl) ?_ _
      obtain ⟨g1, g2, g3, g4⟩ := hHeld
      have e1 := of_decide_eq_false hd1; have e2 := of_decide_eq_false hd2
      go_wp2_with (first | (go_at_call 78; refine (negative_any _ _ _).mono ?_; rintro e w' ⟨rfl, hb⟩; replace g3 := Blk.keep hb g3; replace g4 := g4.trans (hb.mono g4.size)) | (go_at_call 94; refine (bound_low _).mono ?_; rintro e w' ⟨rfl, hb⟩; replace g3 := Blk.keep hb g3; replace g4 := g4.trans (hb.mono g4.size)) | (go_at_call 94; refine (bound_high _).mono ?_; rintro e w' ⟨rfl, hb⟩; replace g3 := Blk.keep hb g3; replace g4 := g4.trans (hb.mono g4.size)))
      have e3 := of_decide_eq_true hd3
      have hfin := (g3.put (i := 0) (.int .i64 9223372036854775807)).put (i := 1) (.int .u64 18446744073709551615)
      have hres := add_high a0 a1 b0 b1 (by omega) (by omega) Hs.out (by omega) (by omega) (by omega)
      exact bodyPost_ret (v := .agg #[.int .i64 9223372036854775807, .int .u64 18446744073709551615]) (by simp [results, Tryz.results75, go_sem, (show Blk _ _ #[.int .i64 9223372036854775807, .int .u64 18446744073709551615] _ from hfin).two]) rfl ⟨ret_w hres.1 hres.2, (g4.setCell (by simp; omega) _).setCell (by simp; omega) _⟩
  · skip
    go_enter Tryz.func75, Tryz.ntmps75
    go_wp2
    generalize hs : wrap64 (wrap64 (h1 + h2) + (l1 + l2) / 18446744073709551616) = s
    have Hs := Lib.hid hs; clear hs
    refine wp_region_held_drew (S := (fun w' => Blk w' w.heap.size #[.int .i64 h1, .int .u64 l1] 125 ∧ Blk w' (w.heap.size + 1) #[.int .i64 h2, .int .u64 l2] 125 ∧ Blk w' (w.heap.size + 1 + 1) #[.int .i64 0, .int .u64 0] 125 ∧ Below w.heap.size w w')) (by kernel_rfl) ?_ (fun hHeld => ?_)
    · exact ⟨(((Blk.new rfl).old _).old _).drew, ((Blk.new (by simp)).old _).drew, (Blk.new (by simp)).drew, ((((Below.refl _ _).alloc (Nat.le_refl _) _).alloc (by simp) _).alloc (by simp; omega) _).drew⟩
    refine H.take 0 (v := ?_) rfl (by kernel_rfl) (fun _ _ _ h => h) (by rfl) ?_ (by assumption) ?_
    rotate_left
    · (intro wz hSw; (try dsimp only at hSw); go_simp <;> with_reducible rfl)
    try simp only [Act.put, List.setIfInBounds_toArray, List.set_cons_zero, List.set_cons_succ]
    refine H.take 2 (v := ?_) rfl (by kernel_rfl) (fun _ _ _ h => h) (by rfl) ?_ (by assumption) ?_
    rotate_left
    · (intro wz hSw; (try dsimp only at hSw); go_simp <;> with_reducible rfl)
    try simp only [Act.put, List.setIfInBounds_toArray, List.set_cons_zero, List.set_cons_succ]
    refine H.ready [1] (by kernel_rfl) (by simp) ?_
    refine H.one rfl (by rfl) (fun K hK => ?_) AllReadyH.nil
    go_simp
    go_at_call 78
    refine (negative_any _ _ _).mono ?_
    rintro e w' ⟨rfl, hb⟩
    refine hK.out _ _ ?_ (fun hHeld2 => ?_)
    · exact ⟨Blk.keep hb hHeld.1, Blk.keep hb hHeld.2.1, Blk.keep hb hHeld.2.2.1, hHeld.2.2.2.trans (hb.mono hHeld.2.2.2.size)⟩
    clear hHeld hK K; have hHeld := hHeld2; clear hHeld2
    try simp only [Act.put, List.setIfInBounds_toArray, List.set_cons_zero, List.set_cons_succ]
    refine H.ready [3] (by kernel_rfl) (by simp) ?_
    refine H.one rfl (by rfl) (fun K hK => ?_) AllReadyH.nil
    go_simp
    go_at_call 78
    refine (negative_any _ _ _).mono ?_
    rintro e w' ⟨rfl, hb⟩
    refine hK.out _ _ ?_ (fun hHeld2 => ?_)
    · exact ⟨Blk.keep hb hHeld.1, Blk.keep hb hHeld.2.1, Blk.keep hb hHeld.2.2.1, hHeld.2.2.2.trans (hb.mono hHeld.2.2.2.size)⟩
    clear hHeld hK K; have hHeld := hHeld2; clear hHeld2
    try simp only [Act.put, List.setIfInBounds_toArray, List.set_cons_zero, List.set_cons_succ]
    refine H.take 4 (v := ?_) rfl (by kernel_rfl) (fun _ _ _ h => h) (by rfl) ?_ (by assumption) ?_
    rotate_left
    · (intro wz hSw; (try dsimp only at hSw); go_simp <;> with_reducible rfl)
    try simp only [Act.put, List.setIfInBounds_toArray, List.set_cons_zero, List.set_cons_succ]
    refine H.take 5 (v := ?_) rfl (by kernel_rfl) (fun _ _ _ h => h) (by rfl) ?_ (by assumption) ?_
    rotate_left
    · (intro wz hSw; (try dsimp only at hSw); go_simp <;> with_reducible rfl)
    try simp only [Act.put, List.setIfInBounds_toArray, List.set_cons_zero, List.set_cons_succ]
    refine H.skip 6 rfl (by kernel_rfl) (fun _ _ _ h => h) (by rfl) (by assumption) ?_
    try simp only [Act.put, List.setIfInBounds_toArray, List.set_cons_zero, List.set_cons_succ]
    refine H.skip 7 rfl (by kernel_rfl) (fun _ _ _ h => h) (by rfl) (by assumption) ?_
    try simp only [Act.put, List.setIfInBounds_toArray, List.set_cons_zero, List.set_cons_succ]
    refine H.skip 8 rfl (by kernel_rfl) (fun _ _ _ h => h) (by rfl) (by assumption) ?_
    try simp only [Act.put, List.setIfInBounds_toArray, List.set_cons_zero, List.set_cons_succ]
    refine H.skip 9 rfl (by kernel_rfl) (fun _ _ _ h => h) (by rfl) (by assumption) ?_
    try simp only [Act.put, List.setIfInBounds_toArray, List.set_cons_zero, List.set_cons_succ]
    refine H.skip 10 rfl (by kernel_rfl) (fun _ _ _ h => h) (by rfl) (by assumption) ?_
    try simp only [Act.put, List.setIfInBounds_toArray, List.set_cons_zero, List.set_cons_succ]
    refine H.take 11 (v := ?_) rfl (by kernel_rfl) (fun _ _ _ h => h) (by rfl) ?_ (by assumption) ?_
    rotate_left
    · (intro wz hSw; (try dsimp only at hSw); go_simp <;> with_reducible rfl)
    try simp only [Act.put, List.setIfInBounds_toArray, List.set_cons_zero, List.set_cons_succ]
    refine H.done (by kernel_rfl) ?_ _
    obtain ⟨g1, g2, g3, g4⟩ := hHeld
    have e1 := of_decide_eq_false hd1; have e2 := of_decide_eq_true hd2
    go_wp2_with (first | (go_at_call 78; refine (negative_any _ _ _).mono ?_; rintro e w' ⟨rfl, hb⟩; replace g3 := Blk.keep hb g3; replace g4 := g4.trans (hb.mono g4.size)) | (go_at_call 94; refine (bound_low _).mono ?_; rintro e w' ⟨rfl, hb⟩; replace g3 := Blk.keep hb g3; replace g4 := g4.trans (hb.mono g4.size)) | (go_at_call 94; refine (bound_high _).mono ?_; rintro e w' ⟨rfl, hb⟩; replace g3 := Blk.keep hb g3; replace g4 := g4.trans (hb.mono g4.size)))
    have hfin := (g3.put (i := 0) (.int .i64 s)).put (i := 1) (.int .u64 ((l1 + l2) % 18446744073709551616))
    have hres := add_fits a0 a1 b0 b1 c0 c1 d0 d1 Hs.out (by omega)
    exact bodyPost_ret (v := .agg #[.int .i64 s, .int .u64 ((l1 + l2) % 18446744073709551616)]) (by simp [results, Tryz.results75, go_sem, (show Blk _ _ #[.int .i64 s, .int .u64 ((l1 + l2) % 18446744073709551616)] _ from hfin).two]) rfl ⟨ret_w hres.1 hres.2, (g4.setCell (by simp; omega) _).setCell (by simp; omega) _⟩
  · skip
    go_enter Tryz.func75, Tryz.ntmps75
    go_wp2
    generalize hs : wrap64 (wrap64 (h1 + h2) + (l1 + l2) / 18446744073709551616) = s
    have Hs := Lib.hid hs; clear hs
    refine wp_region_held_drew (S := (fun w' => Blk w' w.heap.size #[.int .i64 h1, .int .u64 l1] 125 ∧ Blk w' (w.heap.size + 1) #[.int .i64 h2, .int .u64 l2] 125 ∧ Blk w' (w.heap.size + 1 + 1) #[.int .i64 0, .int .u64 0] 125 ∧ Below w.heap.size w w')) (by kernel_rfl) ?_ (fun hHeld => ?_)
    · exact ⟨(((Blk.new rfl).old _).old _).drew, ((Blk.new (by simp)).old _).drew, (Blk.new (by simp)).drew, ((((Below.refl _ _).alloc (Nat.le_refl _) _).alloc (by simp) _).alloc (by simp; omega) _).drew⟩
    refine H.take 0 (v := ?_) rfl (by kernel_rfl) (fun _ _ _ h => h) (by rfl) ?_ (by assumption) ?_
    rotate_left
    · (intro wz hSw; (try dsimp only at hSw); go_simp <;> with_reducible rfl)
    try simp only [Act.put, List.setIfInBounds_toArray, List.set_cons_zero, List.set_cons_succ]
    refine H.take 2 (v := ?_) rfl (by kernel_rfl) (fun _ _ _ h => h) (by rfl) ?_ (by assumption) ?_
    rotate_left
    · (intro wz hSw; (try dsimp only at hSw); go_simp <;> with_reducible rfl)
    try simp only [Act.put, List.setIfInBounds_toArray, List.set_cons_zero, List.set_cons_succ]
    refine H.ready [1] (by kernel_rfl) (by simp) ?_
    refine H.one rfl (by rfl) (fun K hK => ?_) AllReadyH.nil
    go_simp
    go_at_call 78
    refine (negative_any _ _ _).mono ?_
    rintro e w' ⟨rfl, hb⟩
    refine hK.out _ _ ?_ (fun hHeld2 => ?_)
    · exact ⟨Blk.keep hb hHeld.1, Blk.keep hb hHeld.2.1, Blk.keep hb hHeld.2.2.1, hHeld.2.2.2.trans (hb.mono hHeld.2.2.2.size)⟩
    clear hHeld hK K; have hHeld := hHeld2; clear hHeld2
    try simp only [Act.put, List.setIfInBounds_toArray, List.set_cons_zero, List.set_cons_succ]
    refine H.ready [3] (by kernel_rfl) (by simp) ?_
    refine H.one rfl (by rfl) (fun K hK => ?_) AllReadyH.nil
    go_simp
    go_at_call 78
    refine (negative_any _ _ _).mono ?_
    rintro e w' ⟨rfl, hb⟩
    refine hK.out _ _ ?_ (fun hHeld2 => ?_)
    · exact ⟨Blk.keep hb hHeld.1, Blk.keep hb hHeld.2.1, Blk.keep hb hHeld.2.2.1, hHeld.2.2.2.trans (hb.mono hHeld.2.2.2.size)⟩
    clear hHeld hK K; have hHeld := hHeld2; clear hHeld2
    try simp only [Act.put, List.setIfInBounds_toArray, List.set_cons_zero, List.set_cons_succ]
    refine H.take 4 (v := ?_) rfl (by kernel_rfl) (fun _ _ _ h => h) (by rfl) ?_ (by assumption) ?_
    rotate_left
    · (intro wz hSw; (try dsimp only at hSw); go_simp <;> with_reducible rfl)
    try simp only [Act.put, List.setIfInBounds_toArray, List.set_cons_zero, List.set_cons_succ]
    refine H.take 5 (v := ?_) rfl (by kernel_rfl) (fun _ _ _ h => h) (by rfl) ?_ (by assumption) ?_
    rotate_left
    · (intro wz hSw; (try dsimp only at hSw); go_simp <;> with_reducible rfl)
    try simp only [Act.put, List.setIfInBounds_toArray, List.set_cons_zero, List.set_cons_succ]
    refine H.skip 6 rfl (by kernel_rfl) (fun _ _ _ h => h) (by rfl) (by assumption) ?_
    try simp only [Act.put, List.setIfInBounds_toArray, List.set_cons_zero, List.set_cons_succ]
    refine H.skip 7 rfl (by kernel_rfl) (fun _ _ _ h => h) (by rfl) (by assumption) ?_
    try simp only [Act.put, List.setIfInBounds_toArray, List.set_cons_zero, List.set_cons_succ]
    refine H.skip 8 rfl (by kernel_rfl) (fun _ _ _ h => h) (by rfl) (by assumption) ?_
    try simp only [Act.put, List.setIfInBounds_toArray, List.set_cons_zero, List.set_cons_succ]
    refine H.skip 9 rfl (by kernel_rfl) (fun _ _ _ h => h) (by rfl) (by assumption) ?_
    try simp only [Act.put, List.setIfInBounds_toArray, List.set_cons_zero, List.set_cons_succ]
    refine H.skip 10 rfl (by kernel_rfl) (fun _ _ _ h => h) (by rfl) (by assumption) ?_
    try simp only [Act.put, List.setIfInBounds_toArray, List.set_cons_zero, List.set_cons_succ]
    refine H.take 11 (v := ?_) rfl (by kernel_rfl) (fun _ _ _ h => h) (by rfl) ?_ (by assumption) ?_
    rotate_left
    · (intro wz hSw; (try dsimp only at hSw); go_simp <;> with_reducible rfl)
    try simp only [Act.put, List.setIfInBounds_toArray, List.set_cons_zero, List.set_cons_succ]
    refine H.done (by kernel_rfl) ?_ _
    obtain ⟨g1, g2, g3, g4⟩ := hHeld
    have e1 := of_decide_eq_true hd1; have e2 := of_decide_eq_false hd2
    go_wp2_with (first | (go_at_call 78; refine (negative_any _ _ _).mono ?_; rintro e w' ⟨rfl, hb⟩; replace g3 := Blk.keep hb g3; replace g4 := g4.trans (hb.mono g4.size)) | (go_at_call 94; refine (bound_low _).mono ?_; rintro e w' ⟨rfl, hb⟩; replace g3 := Blk.keep hb g3; replace g4 := g4.trans (hb.mono g4.size)) | (go_at_call 94; refine (bound_high _).mono ?_; rintro e w' ⟨rfl, hb⟩; replace g3 := Blk.keep hb g3; replace g4 := g4.trans (hb.mono g4.size)))
    have hfin := (g3.put (i := 0) (.int .i64 s)).put (i := 1) (.int .u64 ((l1 + l2) % 18446744073709551616))
    have hres := add_fits a0 a1 b0 b1 c0 c1 d0 d1 Hs.out (by omega)
    exact bodyPost_ret (v := .agg #[.int .i64 s, .int .u64 ((l1 + l2) % 18446744073709551616)]) (by simp [results, Tryz.results75, go_sem, (show Blk _ _ #[.int .i64 s, .int .u64 ((l1 + l2) % 18446744073709551616)] _ from hfin).two]) rfl ⟨ret_w hres.1 hres.2, (g4.setCell (by simp; omega) _).setCell (by simp; omega) _⟩
  · skip
    go_enter Tryz.func75, Tryz.ntmps75
    go_wp2
    generalize hs : wrap64 (wrap64 (h1 + h2) + (l1 + l2) / 18446744073709551616) = s
    have Hs := Lib.hid hs; clear hs
    rcases hd3 : decide (s < 0) with _ | _
    · skip
      refine wp_region_held_drew (S := (fun w' => Blk w' w.heap.size #[.int .i64 h1, .int .u64 l1] 125 ∧ Blk w' (w.heap.size + 1) #[.int .i64 h2, .int .u64 l2] 125 ∧ Blk w' (w.heap.size + 1 + 1) #[.int .i64 0, .int .u64 0] 125 ∧ Below w.heap.size w w')) (by kernel_rfl) ?_ (fun hHeld => ?_)
      · exact ⟨(((Blk.new rfl).old _).old _).drew, ((Blk.new (by simp)).old _).drew, (Blk.new (by simp)).drew, ((((Below.refl _ _).alloc (Nat.le_refl _) _).alloc (by simp) _).alloc (by simp; omega) _).drew⟩
      refine H.take 0 (v := ?_) rfl (by kernel_rfl) (fun _ _ _ h => h) (by rfl) ?_ (by assumption) ?_
      rotate_left
      · (intro wz hSw; (try dsimp only at hSw); go_simp <;> with_reducible rfl)
      try simp only [Act.put, List.setIfInBounds_toArray, List.set_cons_zero, List.set_cons_succ]
      refine H.take 2 (v := ?_) rfl (by kernel_rfl) (fun _ _ _ h => h) (by rfl) ?_ (by assumption) ?_
      rotate_left
      · (intro wz hSw; (try dsimp only at hSw); go_simp <;> with_reducible rfl)
      try simp only [Act.put, List.setIfInBounds_toArray, List.set_cons_zero, List.set_cons_succ]
      refine H.ready [1] (by kernel_rfl) (by simp) ?_
      refine H.one rfl (by rfl) (fun K hK => ?_) AllReadyH.nil
      go_simp
      go_at_call 78
      refine (negative_any _ _ _).mono ?_
      rintro e w' ⟨rfl, hb⟩
      refine hK.out _ _ ?_ (fun hHeld2 => ?_)
      · exact ⟨Blk.keep hb hHeld.1, Blk.keep hb hHeld.2.1, Blk.keep hb hHeld.2.2.1, hHeld.2.2.2.trans (hb.mono hHeld.2.2.2.size)⟩
      clear hHeld hK K; have hHeld := hHeld2; clear hHeld2
      try simp only [Act.put, List.setIfInBounds_toArray, List.set_cons_zero, List.set_cons_succ]
      refine H.ready [3] (by kernel_rfl) (by simp) ?_
      refine H.one rfl (by rfl) (fun K hK => ?_) AllReadyH.nil
      go_simp
      go_at_call 78
      refine (negative_any _ _ _).mono ?_
      rintro e w' ⟨rfl, hb⟩
      refine hK.out _ _ ?_ (fun hHeld2 => ?_)
      · exact ⟨Blk.keep hb hHeld.1, Blk.keep hb hHeld.2.1, Blk.keep hb hHeld.2.2.1, hHeld.2.2.2.trans (hb.mono hHeld.2.2.2.size)⟩
      clear hHeld hK K; have hHeld := hHeld2; clear hHeld2
      try simp only [Act.put, List.setIfInBounds_toArray, List.set_cons_zero, List.set_cons_succ]
      refine H.take 4 (v := ?_) rfl (by kernel_rfl) (fun _ _ _ h => h) (by rfl) ?_ (by assumption) ?_
      rotate_left
      · (intro wz hSw; (try dsimp only at hSw); go_simp <;> with_reducible rfl)
      try simp only [Act.put, List.setIfInBounds_toArray, List.set_cons_zero, List.set_cons_succ]
      refine H.take 5 (v := ?_) rfl (by kernel_rfl) (fun _ _ _ h => h) (by rfl) ?_ (by assumption) ?_
      rotate_left
      · (intro wz hSw; (try dsimp only at hSw); go_simp <;> with_reducible rfl)
      try simp only [Act.put, List.setIfInBounds_toArray, List.set_cons_zero, List.set_cons_succ]
      refine H.take 6 (v := ?_) rfl (by kernel_rfl) (fun _ _ _ h => h) (by rfl) ?_ (by assumption) ?_
      rotate_left
      · (intro wz hSw; (try dsimp only at hSw); go_simp <;> with_reducible rfl)
      try simp only [Act.put, List.setIfInBounds_toArray, List.set_cons_zero, List.set_cons_succ]
      refine H.take 7 (v := ?_) rfl (by kernel_rfl) (fun _ _ _ h => h) (by rfl) ?_ (by assumption) ?_
      rotate_left
      · (intro wz hSw; (try dsimp only at hSw); go_simp <;> with_reducible rfl)
      try simp only [Act.put, List.setIfInBounds_toArray, List.set_cons_zero, List.set_cons_succ]
      refine H.take 8 (v := ?_) rfl (by kernel_rfl) (fun _ _ _ h => h) (by rfl) ?_ (by assumption) ?_
      rotate_left
      · (intro wz hSw; (try dsimp only at hSw); go_simp <;> with_reducible rfl)
      try simp only [Act.put, List.setIfInBounds_toArray, List.set_cons_zero, List.set_cons_succ]
      refine H.ready [9] (by kernel_rfl) (by simp) ?_
      refine H.one rfl (by rfl) (fun K hK => ?_) AllReadyH.nil
      go_simp
      go_at_call 78
      refine (negative_any _ _ _).mono ?_
      rintro e w' ⟨rfl, hb⟩
      refine hK.out _ _ ?_ (fun hHeld2 => ?_)
      · exact ⟨Blk.keep hb hHeld.1, Blk.keep hb hHeld.2.1, Blk.keep hb hHeld.2.2.1, hHeld.2.2.2.trans (hb.mono hHeld.2.2.2.size)⟩
      clear hHeld hK K; have hHeld := hHeld2; clear hHeld2
      try simp only [Act.put, List.setIfInBounds_toArray, List.set_cons_zero, List.set_cons_succ]
      refine H.take 10 (v := ?_) rfl (by kernel_rfl) (fun _ _ _ h => h) (by rfl) ?_ (by assumption) ?_
      rotate_left
      · (intro wz hSw; (try dsimp only at hSw); go_simp <;> with_reducible rfl)
      try simp only [Act.put, List.setIfInBounds_toArray, List.set_cons_zero, List.set_cons_succ]
      refine H.take 11 (v := ?_) rfl (by kernel_rfl) (fun _ _ _ h => h) (by rfl) ?_ (by assumption) ?_
      rotate_left
      · (intro wz hSw; (try dsimp only at hSw); go_simp <;> with_reducible rfl)
      try simp only [Act.put, List.setIfInBounds_toArray, List.set_cons_zero, List.set_cons_succ]
      refine H.done (by kernel_rfl) ?_ _
      obtain ⟨g1, g2, g3, g4⟩ := hHeld
      have e1 := of_decide_eq_true hd1; have e2 := of_decide_eq_true hd2
      go_wp2_with (first | (go_at_call 78; refine (negative_any _ _ _).mono ?_; rintro e w' ⟨rfl, hb⟩; replace g3 := Blk.keep hb g3; replace g4 := g4.trans (hb.mono g4.size)) | (go_at_call 94; refine (bound_low _).mono ?_; rintro e w' ⟨rfl, hb⟩; replace g3 := Blk.keep hb g3; replace g4 := g4.trans (hb.mono g4.size)) | (go_at_call 94; refine (bound_high _).mono ?_; rintro e w' ⟨rfl, hb⟩; replace g3 := Blk.keep hb g3; replace g4 := g4.trans (hb.mono g4.size)))
      have e3 := of_decide_eq_false hd3
      have hfin := (g3.put (i := 0) (.int .i64 (-9223372036854775808))).put (i := 1) (.int .u64 0)
      have hres := add_low a0 a1 b0 b1 (by omega) (by omega) Hs.out (by omega) (by omega) (by omega)
      exact bodyPost_ret (v := .agg #[.int .i64 (-9223372036854775808), .int .u64 0]) (by simp [results, Tryz.results75, go_sem, (show Blk _ _ #[.int .i64 (-9223372036854775808), .int .u64 0] _ from hfin).two]) rfl ⟨ret_w hres.1 hres.2, (g4.setCell (by simp; omega) _).setCell (by simp; omega) _⟩
    · skip
      refine wp_region_held_drew (S := (fun w' => Blk w' w.heap.size #[.int .i64 h1, .int .u64 l1] 125 ∧ Blk w' (w.heap.size + 1) #[.int .i64 h2, .int .u64 l2] 125 ∧ Blk w' (w.heap.size + 1 + 1) #[.int .i64 0, .int .u64 0] 125 ∧ Below w.heap.size w w')) (by kernel_rfl) ?_ (fun hHeld => ?_)
      · exact ⟨(((Blk.new rfl).old _).old _).drew, ((Blk.new (by simp)).old _).drew, (Blk.new (by simp)).drew, ((((Below.refl _ _).alloc (Nat.le_refl _) _).alloc (by simp) _).alloc (by simp; omega) _).drew⟩
      refine H.take 0 (v := ?_) rfl (by kernel_rfl) (fun _ _ _ h => h) (by rfl) ?_ (by assumption) ?_
      rotate_left
      · (intro wz hSw; (try dsimp only at hSw); go_simp <;> with_reducible rfl)
      try simp only [Act.put, List.setIfInBounds_toArray, List.set_cons_zero, List.set_cons_succ]
      refine H.take 2 (v := ?_) rfl (by kernel_rfl) (fun _ _ _ h => h) (by rfl) ?_ (by assumption) ?_
      rotate_left
      · (intro wz hSw; (try dsimp only at hSw); go_simp <;> with_reducible rfl)
      try simp only [Act.put, List.setIfInBounds_toArray, List.set_cons_zero, List.set_cons_succ]
      refine H.ready [1] (by kernel_rfl) (by simp) ?_
      refine H.one rfl (by rfl) (fun K hK => ?_) AllReadyH.nil
      go_simp
      go_at_call 78
      refine (negative_any _ _ _).mono ?_
      rintro e w' ⟨rfl, hb⟩
      refine hK.out _ _ ?_ (fun hHeld2 => ?_)
      · exact ⟨Blk.keep hb hHeld.1, Blk.keep hb hHeld.2.1, Blk.keep hb hHeld.2.2.1, hHeld.2.2.2.trans (hb.mono hHeld.2.2.2.size)⟩
      clear hHeld hK K; have hHeld := hHeld2; clear hHeld2
      try simp only [Act.put, List.setIfInBounds_toArray, List.set_cons_zero, List.set_cons_succ]
      refine H.ready [3] (by kernel_rfl) (by simp) ?_
      refine H.one rfl (by rfl) (fun K hK => ?_) AllReadyH.nil
      go_simp
      go_at_call 78
      refine (negative_any _ _ _).mono ?_
      rintro e w' ⟨rfl, hb⟩
      refine hK.out _ _ ?_ (fun hHeld2 => ?_)
      · exact ⟨Blk.keep hb hHeld.1, Blk.keep hb hHeld.2.1, Blk.keep hb hHeld.2.2.1, hHeld.2.2.2.trans (hb.mono hHeld.2.2.2.size)⟩
      clear hHeld hK K; have hHeld := hHeld2; clear hHeld2
      try simp only [Act.put, List.setIfInBounds_toArray, List.set_cons_zero, List.set_cons_succ]
      refine H.take 4 (v := ?_) rfl (by kernel_rfl) (fun _ _ _ h => h) (by rfl) ?_ (by assumption) ?_
      rotate_left
      · (intro wz hSw; (try dsimp only at hSw); go_simp <;> with_reducible rfl)
      try simp only [Act.put, List.setIfInBounds_toArray, List.set_cons_zero, List.set_cons_succ]
      refine H.take 5 (v := ?_) rfl (by kernel_rfl) (fun _ _ _ h => h) (by rfl) ?_ (by assumption) ?_
      rotate_left
      · (intro wz hSw; (try dsimp only at hSw); go_simp <;> with_reducible rfl)
      try simp only [Act.put, List.setIfInBounds_toArray, List.set_cons_zero, List.set_cons_succ]
      refine H.take 6 (v := ?_) rfl (by kernel_rfl) (fun _ _ _ h => h) (by rfl) ?_ (by assumption) ?_
      rotate_left
      · (intro wz hSw; (try dsimp only at hSw); go_simp <;> with_reducible rfl)
      try simp only [Act.put, List.setIfInBounds_toArray, List.set_cons_zero, List.set_cons_succ]
      refine H.take 7 (v := ?_) rfl (by kernel_rfl) (fun _ _ _ h => h) (by rfl) ?_ (by assumption) ?_
      rotate_left
      · (intro wz hSw; (try dsimp only at hSw); go_simp <;> with_reducible rfl)
      try simp only [Act.put, List.setIfInBounds_toArray, List.set_cons_zero, List.set_cons_succ]
      refine H.take 8 (v := ?_) rfl (by kernel_rfl) (fun _ _ _ h => h) (by rfl) ?_ (by assumption) ?_
      rotate_left
      · (intro wz hSw; (try dsimp only at hSw); go_simp <;> with_reducible rfl)
      try simp only [Act.put, List.setIfInBounds_toArray, List.set_cons_zero, List.set_cons_succ]
      refine H.ready [9] (by kernel_rfl) (by simp) ?_
      refine H.one rfl (by rfl) (fun K hK => ?_) AllReadyH.nil
      go_simp
      go_at_call 78
      refine (negative_any _ _ _).mono ?_
      rintro e w' ⟨rfl, hb⟩
      refine hK.out _ _ ?_ (fun hHeld2 => ?_)
      · exact ⟨Blk.keep hb hHeld.1, Blk.keep hb hHeld.2.1, Blk.keep hb hHeld.2.2.1, hHeld.2.2.2.trans (hb.mono hHeld.2.2.2.size)⟩
      clear hHeld hK K; have hHeld := hHeld2; clear hHeld2
      try simp only [Act.put, List.setIfInBounds_toArray, List.set_cons_zero, List.set_cons_succ]
      refine H.take 10 (v := ?_) rfl (by kernel_rfl) (fun _ _ _ h => h) (by rfl) ?_ (by assumption) ?_
      rotate_left
      · (intro wz hSw; (try dsimp only at hSw); go_simp <;> with_reducible rfl)
      try simp only [Act.put, List.setIfInBounds_toArray, List.set_cons_zero, List.set_cons_succ]
      refine H.take 11 (v := ?_) rfl (by kernel_rfl) (fun _ _ _ h => h) (by rfl) ?_ (by assumption) ?_
      rotate_left
      · (intro wz hSw; (try dsimp only at hSw); go_simp <;> with_reducible rfl)
      try simp only [Act.put, List.setIfInBounds_toArray, List.set_cons_zero, List.set_cons_succ]
      refine H.done (by kernel_rfl) ?_ _
      obtain ⟨g1, g2, g3, g4⟩ := hHeld
      have e1 := of_decide_eq_true hd1; have e2 := of_decide_eq_true hd2
      go_wp2_with (first | (go_at_call 78; refine (negative_any _ _ _).mono ?_; rintro e w' ⟨rfl, hb⟩; replace g3 := Blk.keep hb g3; replace g4 := g4.trans (hb.mono g4.size)) | (go_at_call 94; refine (bound_low _).mono ?_; rintro e w' ⟨rfl, hb⟩; replace g3 := Blk.keep hb g3; replace g4 := g4.trans (hb.mono g4.size)) | (go_at_call 94; refine (bound_high _).mono ?_; rintro e w' ⟨rfl, hb⟩; replace g3 := Blk.keep hb g3; replace g4 := g4.trans (hb.mono g4.size)))
      have e3 := of_decide_eq_true hd3
      have hfin := (g3.put (i := 0) (.int .i64 s)).put (i := 1) (.int .u64 ((l1 + l2) % 18446744073709551616))
      have hres := add_fits a0 a1 b0 b1 c0 c1 d0 d1 Hs.out (by omega)
      exact bodyPost_ret (v := .agg #[.int .i64 s, .int .u64 ((l1 + l2) % 18446744073709551616)]) (by simp [results, Tryz.results75, go_sem, (show Blk _ _ #[.int .i64 s, .int .u64 ((l1 + l2) % 18446744073709551616)] _ from hfin).two]) rfl ⟨ret_w hres.1 hres.2, (g4.setCell (by simp; omega) _).setCell (by simp; omega) _⟩


theorem run_sub64 (x y c : Int) (hx : 0 ≤ x) (hy : 0 ≤ y) (hx1 : x ≤ 18446744073709551615) (hy1 : y ≤ 18446744073709551615) (hc : c = if x < y then 1 else 0) (w : World) :
    (callFunc 108 #[.int .u64 x, .int .u64 y, .int .u64 0]).run Tryz.prog w =
      .ok (.value (.tuple #[.int .u64 ((x + 18446744073709551616 - y) % 18446744073709551616), .int .u64 c])) w := by
  obtain ⟨a, rfl⟩ := Int.eq_ofNat_of_zero_le hx
  obtain ⟨b, rfl⟩ := Int.eq_ofNat_of_zero_le hy
  rw [run_callFunc_extern Tryz.func108 (by kernel_rfl) (by kernel_rfl) (by kernel_rfl) (e := Go.Proofs.sub64Entry) (by kernel_rfl), show Value.int IntKind.u64 0 = Value.int IntKind.u64 ((0 : Nat) : Int) from rfl, Go.Proofs.run_sub64 a b 0 (by omega)]
  simp only [Result.andThen]
  have e1 : (((a + 18446744073709551616 - b - 0) % 18446744073709551616 : Nat) : Int) = ((a : Int) + 18446744073709551616 - b) % 18446744073709551616 := by omega
  have e2 : ((if a < b + 0 then 1 else 0 : Nat) : Int) = c := by
    rw [hc]; by_cases h : a < b
    · rw [if_pos (by omega), if_pos (by omega)]; rfl
    · rw [if_neg (by omega), if_neg (by omega)]; rfl
  rw [e1, e2]

set_option maxHeartbeats 4000000 in
theorem sub_any (h1 l1 h2 l2 : Int) (a0 : 0 ≤ l1) (a1 : l1 ≤ 18446744073709551615) (b0 : 0 ≤ l2) (b1 : l2 ≤ 18446744073709551615)
    (c0 : -9223372036854775808 ≤ h1) (c1 : h1 ≤ 9223372036854775807) (d0 : -9223372036854775808 ≤ h2) (d1 : h2 ≤ 9223372036854775807) (w : World) :
    Calls Tryz.prog 121 #[.agg #[.int .i64 h1, .int .u64 l1], .agg #[.int .i64 h2, .int .u64 l2]] w fun e w' =>
      e = .returned (.agg #[.int .i64 (hi (clamp (h1 * 18446744073709551616 + l1 - (h2 * 18446744073709551616 + l2)))), .int .u64 (lo (clamp (h1 * 18446744073709551616 + l1 - (h2 * 18446744073709551616 + l2))))]) ∧ Below w.heap.size w w' := by
  obtain ⟨bw, hbw0⟩ : ∃ bw : Int, bw = if l1 < l2 then 1 else 0 := ⟨_, rfl⟩; have bw0 : 0 ≤ bw := (by split at hbw0 <;> omega); have bw1 : bw ≤ 1 := (by split at hbw0 <;> omega); have hbw := Lib.hid hbw0
  have hadd := fun w => run_sub64 l1 l2 bw a0 b0 a1 b1 hbw0 w
  have q1 := fun (w' : World) (h : Blk w' w.heap.size #[.int .i64 h1, .int .u64 l1] 125) => h.two
  have q2 := fun (w' : World) (h : Blk w' (w.heap.size + 1) #[.int .i64 h2, .int .u64 l2] 125) => h.two
  have q3 := fun (w' : World) (h : Blk w' (w.heap.size + 1 + 1) #[.int .i64 0, .int .u64 0] 125) => h.two
  have q4 := fun (w' : World) (h : Blk w' (w.heap.size + 1 + 1) #[.int .i64 0, .int .u64 0] 125) => h.free0
  clear hbw0
  rcases hd1 : decide (h1 < 0) with _ | _ <;> rcases hd2 : decide (h2 < 0) with _ | _
  · skip
    go_enter Tryz.func121, Tryz.ntmps121
    go_wp2
    generalize hs : wrap64 (wrap64 (h1 - h2) - bw) = s
    have Hs := Lib.hid hs; clear hs
    refine wp_region_held_drew (S := (fun w' => Blk w' w.heap.size #[.int .i64 h1, .int .u64 l1] 125 ∧ Blk w' (w.heap.size + 1) #[.int .i64 h2, .int .u64 l2] 125 ∧ Blk w' (w.heap.size + 1 + 1) #[.int .i64 0, .int .u64 0] 125 ∧ Below w.heap.size w w')) (by kernel_rfl) ?_ (fun hHeld => ?_)
    · exact ⟨(((Blk.new rfl).old _).old _).drew, ((Blk.new (by simp)).old _).drew, (Blk.new (by simp)).drew, ((((Below.refl _ _).alloc (Nat.le_refl _) _).alloc (by simp) _).alloc (by simp; omega) _).drew⟩
    refine H.take 0 (v := ?_) rfl (by kernel_rfl) (fun _ _ _ h => h) (by rfl) ?_ (by assumption) ?_
    rotate_left
    · (intro wz hSw; (try dsimp only at hSw); go_simp <;> with_reducible rfl)
    try simp only [Act.put, List.setIfInBounds_toArray, List.set_cons_zero, List.set_cons_succ]
    refine H.take 2 (v := ?_) rfl (by kernel_rfl) (fun _ _ _ h => h) (by rfl) ?_ (by assumption) ?_
    rotate_left
    · (intro wz hSw; (try dsimp only at hSw); go_simp <;> with_reducible rfl)
    try simp only [Act.put, List.setIfInBounds_toArray, List.set_cons_zero, List.set_cons_succ]
    refine H.ready [1] (by kernel_rfl) (by simp) ?_
    refine H.one rfl (by rfl) (fun K hK => ?_) AllReadyH.nil
    go_simp
    go_at_call 78
    refine (negative_any _ _ _).mono ?_
    rintro e w' ⟨rfl, hb⟩
    refine hK.out _ _ ?_ (fun hHeld2 => ?_)
    · exact ⟨Blk.keep hb hHeld.1, Blk.keep hb hHeld.2.1, Blk.keep hb hHeld.2.2.1, hHeld.2.2.2.trans (hb.mono hHeld.2.2.2.size)⟩
    clear hHeld hK K; have hHeld := hHeld2; clear hHeld2
    try simp only [Act.put, List.setIfInBounds_toArray, List.set_cons_zero, List.set_cons_succ]
    refine H.ready [3] (by kernel_rfl) (by simp) ?_
    refine H.one rfl (by rfl) (fun K hK => ?_) AllReadyH.nil
    go_simp
    go_at_call 78
    refine (negative_any _ _ _).mono ?_
    rintro e w' ⟨rfl, hb⟩
    refine hK.out _ _ ?_ (fun hHeld2 => ?_)
    · exact ⟨Blk.keep hb hHeld.1, Blk.keep hb hHeld.2.1, Blk.keep hb hHeld.2.2.1, hHeld.2.2.2.trans (hb.mono hHeld.2.2.2.size)⟩
    clear hHeld hK K; have hHeld := hHeld2; clear hHeld2
    try simp only [Act.put, List.setIfInBounds_toArray, List.set_cons_zero, List.set_cons_succ]
    refine H.take 4 (v := ?_) rfl (by kernel_rfl) (fun _ _ _ h => h) (by rfl) ?_ (by assumption) ?_
    rotate_left
    · (intro wz hSw; (try dsimp only at hSw); go_simp <;> with_reducible rfl)
    try simp only [Act.put, List.setIfInBounds_toArray, List.set_cons_zero, List.set_cons_succ]
    refine H.take 5 (v := ?_) rfl (by kernel_rfl) (fun _ _ _ h => h) (by rfl) ?_ (by assumption) ?_
    rotate_left
    · (intro wz hSw; (try dsimp only at hSw); go_simp <;> with_reducible rfl)
    try simp only [Act.put, List.setIfInBounds_toArray, List.set_cons_zero, List.set_cons_succ]
    refine H.skip 6 rfl (by kernel_rfl) (fun _ _ _ h => h) (by rfl) (by assumption) ?_
    try simp only [Act.put, List.setIfInBounds_toArray, List.set_cons_zero, List.set_cons_succ]
    refine H.skip 7 rfl (by kernel_rfl) (fun _ _ _ h => h) (by rfl) (by assumption) ?_
    try simp only [Act.put, List.setIfInBounds_toArray, List.set_cons_zero, List.set_cons_succ]
    refine H.skip 8 rfl (by kernel_rfl) (fun _ _ _ h => h) (by rfl) (by assumption) ?_
    try simp only [Act.put, List.setIfInBounds_toArray, List.set_cons_zero, List.set_cons_succ]
    refine H.skip 9 rfl (by kernel_rfl) (fun _ _ _ h => h) (by rfl) (by assumption) ?_
    try simp only [Act.put, List.setIfInBounds_toArray, List.set_cons_zero, List.set_cons_succ]
    refine H.skip 10 rfl (by kernel_rfl) (fun _ _ _ h => h) (by rfl) (by assumption) ?_
    try simp only [Act.put, List.setIfInBounds_toArray, List.set_cons_zero, List.set_cons_succ]
    refine H.take 11 (v := ?_) rfl (by kernel_rfl) (fun _ _ _ h => h) (by rfl) ?_ (by assumption) ?_
    rotate_left
    · (intro wz hSw; (try dsimp only at hSw); go_simp <;> with_reducible rfl)
    try simp only [Act.put, List.setIfInBounds_toArray, List.set_cons_zero, List.set_cons_succ]
    refine H.done (by kernel_rfl) ?_ _
    obtain ⟨g1, g2, g3, g4⟩ := hHeld
    have e1 := of_decide_eq_false hd1; have e2 := of_decide_eq_false hd2
    go_wp2_with (first | (go_at_call 78; refine (negative_any _ _ _).mono ?_; rintro e w' ⟨rfl, hb⟩; replace g3 := Blk.keep hb g3; replace g4 := g4.trans (hb.mono g4.size)) | (go_at_call 94; refine (bound_low _).mono ?_; rintro e w' ⟨rfl, hb⟩; replace g3 := Blk.keep hb g3; replace g4 := g4.trans (hb.mono g4.size)) | (go_at_call 94; refine (bound_high _).mono ?_; rintro e w' ⟨rfl, hb⟩; replace g3 := Blk.keep hb g3; replace g4 := g4.trans (hb.mono g4.size)))
    have hfin := (g3.put (i := 0) (.int .i64 s)).put (i := 1) (.int .u64 ((l1 + 18446744073709551616 - l2) % 18446744073709551616))
    have hres := sub_fits a0 a1 b0 b1 c0 c1 d0 d1 Hs.out hbw.out (by omega)
    exact bodyPost_ret (v := .agg #[.int .i64 s, .int .u64 ((l1 + 18446744073709551616 - l2) % 18446744073709551616)]) (by simp [results, Tryz.results121, go_sem, (show Blk _ _ #[.int .i64 s, .int .u64 ((l1 + 18446744073709551616 - l2) % 18446744073709551616)] _ from hfin).two]) rfl ⟨ret_w hres.1 hres.2, (g4.setCell (by simp; omega) _).setCell (by simp; omega) _⟩
  · skip
    go_enter Tryz.func121, Tryz.ntmps121
    go_wp2
    generalize hs : wrap64 (wrap64 (h1 - h2) - bw) = s
    have Hs := Lib.hid hs; clear hs
    rcases hd3 : decide (s < 0) with _ | _
    · skip
      refine wp_region_held_drew (S := (fun w' => Blk w' w.heap.size #[.int .i64 h1, .int .u64 l1] 125 ∧ Blk w' (w.heap.size + 1) #[.int .i64 h2, .int .u64 l2] 125 ∧ Blk w' (w.heap.size + 1 + 1) #[.int .i64 0, .int .u64 0] 125 ∧ Below w.heap.size w w')) (by kernel_rfl) ?_ (fun hHeld => ?_)
      · exact ⟨(((Blk.new rfl).old _).old _).drew, ((Blk.new (by simp)).old _).drew, (Blk.new (by simp)).drew, ((((Below.refl _ _).alloc (Nat.le_refl _) _).alloc (by simp) _).alloc (by simp; omega) _).drew⟩
      refine H.take 0 (v := ?_) rfl (by kernel_rfl) (fun _ _ _ h => h) (by rfl) ?_ (by assumption) ?_
      rotate_left
      · (intro wz hSw; (try dsimp only at hSw); go_simp <;> with_reducible rfl)
      try simp only [Act.put, List.setIfInBounds_toArray, List.set_cons_zero, List.set_cons_succ]
      refine H.take 2 (v := ?_) rfl (by kernel_rfl) (fun _ _ _ h => h) (by rfl) ?_ (by assumption) ?_
      rotate_left
      · (intro wz hSw; (try dsimp only at hSw); go_simp <;> with_reducible rfl)
      try simp only [Act.put, List.setIfInBounds_toArray, List.set_cons_zero, List.set_cons_succ]
      refine H.ready [1] (by kernel_rfl) (by simp) ?_
      refine H.one rfl (by rfl) (fun K hK => ?_) AllReadyH.nil
      go_simp
      go_at_call 78
      refine (negative_any _ _ _).mono ?_
      rintro e w' ⟨rfl, hb⟩
      refine hK.out _ _ ?_ (fun hHeld2 => ?_)
      · exact ⟨Blk.keep hb hHeld.1, Blk.keep hb hHeld.2.1, Blk.keep hb hHeld.2.2.1, hHeld.2.2.2.trans (hb.mono hHeld.2.2.2.size)⟩
      clear hHeld hK K; have hHeld := hHeld2; clear hHeld2
      try simp only [Act.put, List.setIfInBounds_toArray, List.set_cons_zero, List.set_cons_succ]
      refine H.ready [3] (by kernel_rfl) (by simp) ?_
      refine H.one rfl (by rfl) (fun K hK => ?_) AllReadyH.nil
      go_simp
      go_at_call 78
      refine (negative_any _ _ _).mono ?_
      rintro e w' ⟨rfl, hb⟩
      refine hK.out _ _ ?_ (fun hHeld2 => ?_)
      · exact ⟨Blk.keep hb hHeld.1, Blk.keep hb hHeld.2.1, Blk.keep hb hHeld.2.2.1, hHeld.2.2.2.trans (hb.mono hHeld.2.2.2.size)⟩
      clear hHeld hK K; have hHeld := hHeld2; clear hHeld2
      try simp only [Act.put, List.setIfInBounds_toArray, List.set_cons_zero, List.set_cons_succ]
      refine H.take 4 (v := ?_) rfl (by kernel_rfl) (fun _ _ _ h => h) (by rfl) ?_ (by assumption) ?_
      rotate_left
      · (intro wz hSw; (try dsimp only at hSw); go_simp <;> with_reducible rfl)
      try simp only [Act.put, List.setIfInBounds_toArray, List.set_cons_zero, List.set_cons_succ]
      refine H.take 5 (v := ?_) rfl (by kernel_rfl) (fun _ _ _ h => h) (by rfl) ?_ (by assumption) ?_
      rotate_left
      · (intro wz hSw; (try dsimp only at hSw); go_simp <;> with_reducible rfl)
      try simp only [Act.put, List.setIfInBounds_toArray, List.set_cons_zero, List.set_cons_succ]
      refine H.take 6 (v := ?_) rfl (by kernel_rfl) (fun _ _ _ h => h) (by rfl) ?_ (by assumption) ?_
      rotate_left
      · (intro wz hSw; (try dsimp only at hSw); go_simp <;> with_reducible rfl)
      try simp only [Act.put, List.setIfInBounds_toArray, List.set_cons_zero, List.set_cons_succ]
      refine H.take 7 (v := ?_) rfl (by kernel_rfl) (fun _ _ _ h => h) (by rfl) ?_ (by assumption) ?_
      rotate_left
      · (intro wz hSw; (try dsimp only at hSw); go_simp <;> with_reducible rfl)
      try simp only [Act.put, List.setIfInBounds_toArray, List.set_cons_zero, List.set_cons_succ]
      refine H.take 8 (v := ?_) rfl (by kernel_rfl) (fun _ _ _ h => h) (by rfl) ?_ (by assumption) ?_
      rotate_left
      · (intro wz hSw; (try dsimp only at hSw); go_simp <;> with_reducible rfl)
      try simp only [Act.put, List.setIfInBounds_toArray, List.set_cons_zero, List.set_cons_succ]
      refine H.ready [9] (by kernel_rfl) (by simp) ?_
      refine H.one rfl (by rfl) (fun K hK => ?_) AllReadyH.nil
      go_simp
      go_at_call 78
      refine (negative_any _ _ _).mono ?_
      rintro e w' ⟨rfl, hb⟩
      refine hK.out _ _ ?_ (fun hHeld2 => ?_)
      · exact ⟨Blk.keep hb hHeld.1, Blk.keep hb hHeld.2.1, Blk.keep hb hHeld.2.2.1, hHeld.2.2.2.trans (hb.mono hHeld.2.2.2.size)⟩
      clear hHeld hK K; have hHeld := hHeld2; clear hHeld2
      try simp only [Act.put, List.setIfInBounds_toArray, List.set_cons_zero, List.set_cons_succ]
      refine H.take 10 (v := ?_) rfl (by kernel_rfl) (fun _ _ _ h => h) (by rfl) ?_ (by assumption) ?_
      rotate_left
      · (intro wz hSw; (try dsimp only at hSw); go_simp <;> with_reducible rfl)
      try simp only [Act.put, List.setIfInBounds_toArray, List.set_cons_zero, List.set_cons_succ]
      refine H.take 11 (v := ?_) rfl (by kernel_rfl) (fun _ _ _ h => h) (by rfl) ?_ (by assumption) ?_
      rotate_left
      · (intro wz hSw; (try dsimp only at hSw); go_simp <;> with_reducible rfl)
      try simp only [Act.put, List.setIfInBounds_toArray, List.set_cons_zero, List.set_cons_succ]
      refine H.done (by kernel_rfl) ?_ _
      obtain ⟨g1, g2, g3, g4⟩ := hHeld
      have e1 := of_decide_eq_false hd1; have e2 := of_decide_eq_true hd2
      go_wp2_with (first | (go_at_call 78; refine (negative_any _ _ _).mono ?_; rintro e w' ⟨rfl, hb⟩; replace g3 := Blk.keep hb g3; replace g4 := g4.trans (hb.mono g4.size)) | (go_at_call 94; refine (bound_low _).mono ?_; rintro e w' ⟨rfl, hb⟩; replace g3 := Blk.keep hb g3; replace g4 := g4.trans (hb.mono g4.size)) | (go_at_call 94; refine (bound_high _).mono ?_; rintro e w' ⟨rfl, hb⟩; replace g3 := Blk.keep hb g3; replace g4 := g4.trans (hb.mono g4.size)))
      have e3 := of_decide_eq_false hd3
      have hfin := (g3.put (i := 0) (.int .i64 s)).put (i := 1) (.int .u64 ((l1 + 18446744073709551616 - l2) % 18446744073709551616))
      have hres := sub_fits a0 a1 b0 b1 c0 c1 d0 d1 Hs.out hbw.out (by omega)
      exact bodyPost_ret (v := .agg #[.int .i64 s, .int .u64 ((l1 + 18446744073709551616 - l2) % 18446744073709551616)]) (by simp [results, Tryz.results121, go_sem, (show Blk _ _ #[.int .i64 s, .int .u64 ((l1 + 18446744073709551616 - l2) % 18446744073709551616)] _ from hfin).two]) rfl ⟨ret_w hres.1 hres.2, (g4.setCell (by simp; omega) _).setCell (by simp; omega) _⟩
    · skip
      refine wp_region_held_drew (S := (fun w' => Blk w' w.heap.size #[.int .i64 h1, .int .u64 l1] 125 ∧ Blk w' (w.heap.size + 1) #[.int .i64 h2, .int .u64 l2] 125 ∧ Blk w' (w.heap.size + 1 + 1) #[.int .i64 0, .int .u64 0] 125 ∧ Below w.heap.size w w')) (by kernel_rfl) ?_ (fun hHeld => ?_)
      · exact ⟨(((Blk.new rfl).old _).old _).drew, ((Blk.new (by simp)).old _).drew, (Blk.new (by simp)).drew, ((((Below.refl _ _).alloc (Nat.le_refl _) _).alloc (by simp) _).alloc (by simp; omega) _).drew⟩
      refine H.take 0 (v := ?_) rfl (by kernel_rfl) (fun _ _ _ h => h) (by rfl) ?_ (by assumption) ?_
      rotate_left
      · (intro wz hSw; (try dsimp only at hSw); go_simp <;> with_reducible rfl)
      try simp only [Act.put, List.setIfInBounds_toArray, List.set_cons_zero, List.set_cons_succ]
      refine H.take 2 (v := ?_) rfl (by kernel_rfl) (fun _ _ _ h => h) (by rfl) ?_ (by assumption) ?_
      rotate_left
      · (intro wz hSw; (try dsimp only at hSw); go_simp <;> with_reducible rfl)
      try simp only [Act.put, List.setIfInBounds_toArray, List.set_cons_zero, List.set_cons_succ]
      refine H.ready [1] (by kernel_rfl) (by simp) ?_
      refine H.one rfl (by rfl) (fun K hK => ?_) AllReadyH.nil
      go_simp
      go_at_call 78
      refine (negative_any _ _ _).mono ?_
      rintro e w' ⟨rfl, hb⟩
      refine hK.out _ _ ?_ (fun hHeld2 => ?_)
      · exact ⟨Blk.keep hb hHeld.1, Blk.keep hb hHeld.2.1, Blk.keep hb hHeld.2.2.1, hHeld.2.2.2.trans (hb.mono hHeld.2.2.2.size)⟩
      clear hHeld hK K; have hHeld := hHeld2; clear hHeld2
      try simp only [Act.put, List.setIfInBounds_toArray, List.set_cons_zero, List.set_cons_succ]
      refine H.ready [3] (by kernel_rfl) (by simp) ?_
      refine H.one rfl (by rfl) (fun K hK => ?_) AllReadyH.nil
      go_simp
      go_at_call 78
      refine (negative_any _ _ _).mono ?_
      rintro e w' ⟨rfl, hb⟩
      refine hK.out _ _ ?_ (fun hHeld2 => ?_)
      · exact ⟨Blk.keep hb hHeld.1, Blk.keep hb hHeld.2.1, Blk.keep hb hHeld.2.2.1, hHeld.2.2.2.trans (hb.mono hHeld.2.2.2.size)⟩
      clear hHeld hK K; have hHeld := hHeld2; clear hHeld2
      try simp only [Act.put, List.setIfInBounds_toArray, List.set_cons_zero, List.set_cons_succ]
      refine H.take 4 (v := ?_) rfl (by kernel_rfl) (fun _ _ _ h => h) (by rfl) ?_ (by assumption) ?_
      rotate_left
      · (intro wz hSw; (try dsimp only at hSw); go_simp <;> with_reducible rfl)
      try simp only [Act.put, List.setIfInBounds_toArray, List.set_cons_zero, List.set_cons_succ]
      refine H.take 5 (v := ?_) rfl (by kernel_rfl) (fun _ _ _ h => h) (by rfl) ?_ (by assumption) ?_
      rotate_left
      · (intro wz hSw; (try dsimp only at hSw); go_simp <;> with_reducible rfl)
      try simp only [Act.put, List.setIfInBounds_toArray, List.set_cons_zero, List.set_cons_succ]
      refine H.take 6 (v := ?_) rfl (by kernel_rfl) (fun _ _ _ h => h) (by rfl) ?_ (by assumption) ?_
      rotate_left
      · (intro wz hSw; (try dsimp only at hSw); go_simp <;> with_reducible rfl)
      try simp only [Act.put, List.setIfInBounds_toArray, List.set_cons_zero, List.set_cons_succ]
      refine H.take 7 (v := ?_) rfl (by kernel_rfl) (fun _ _ _ h => h) (by rfl) ?_ (by assumption) ?_
      rotate_left
      · (intro wz hSw; (try dsimp only at hSw); go_simp <;> with_reducible rfl)
      try simp only [Act.put, List.setIfInBounds_toArray, List.set_cons_zero, List.set_cons_succ]
      refine H.take 8 (v := ?_) rfl (by kernel_rfl) (fun _ _ _ h => h) (by rfl) ?_ (by assumption) ?_
      rotate_left
      · (intro wz hSw; (try dsimp only at hSw); go_simp <;> with_reducible rfl)
      try simp only [Act.put, List.setIfInBounds_toArray, List.set_cons_zero, List.set_cons_succ]
      refine H.ready [9] (by kernel_rfl) (by simp) ?_
      refine H.one rfl (by rfl) (fun K hK => ?_) AllReadyH.nil
      go_simp
      go_at_call 78
      refine (negative_any _ _ _).mono ?_
      rintro e w' ⟨rfl, hb⟩
      refine hK.out _ _ ?_ (fun hHeld2 => ?_)
      · exact ⟨Blk.keep hb hHeld.1, Blk.keep hb hHeld.2.1, Blk.keep hb hHeld.2.2.1, hHeld.2.2.2.trans (hb.mono hHeld.2.2.2.size)⟩
      clear hHeld hK K; have hHeld := hHeld2; clear hHeld2
      try simp only [Act.put, List.setIfInBounds_toArray, List.set_cons_zero, List.set_cons_succ]
      refine H.take 10 (v := ?_) rfl (by kernel_rfl) (fun _ _ _ h => h) (by rfl) ?_ (by assumption) ?_
      rotate_left
      · (intro wz hSw; (try dsimp only at hSw); go_simp <;> with_reducible rfl)
      try simp only [Act.put, List.setIfInBounds_toArray, List.set_cons_zero, List.set_cons_succ]
      refine H.take 11 (v := ?_) rfl (by kernel_rfl) (fun _ _ _ h => h) (by rfl) ?_ (by assumption) ?_
      rotate_left
      · (intro wz hSw; (try dsimp only at hSw); go_simp <;> with_reducible rfl)
      try simp only [Act.put, List.setIfInBounds_toArray, List.set_cons_zero, List.set_cons_succ]
      refine H.done (by kernel_rfl) ?_ _
      obtain ⟨g1, g2, g3, g4⟩ := hHeld
      have e1 := of_decide_eq_false hd1; have e2 := of_decide_eq_true hd2
      go_wp2_with (first | (go_at_call 78; refine (negative_any _ _ _).mono ?_; rintro e w' ⟨rfl, hb⟩; replace g3 := Blk.keep hb g3; replace g4 := g4.trans (hb.mono g4.size)) | (go_at_call 94; refine (bound_low _).mono ?_; rintro e w' ⟨rfl, hb⟩; replace g3 := Blk.keep hb g3; replace g4 := g4.trans (hb.mono g4.size)) | (go_at_call 94; refine (bound_high _).mono ?_; rintro e w' ⟨rfl, hb⟩; replace g3 := Blk.keep hb g3; replace g4 := g4.trans (hb.mono g4.size)))
      have e3 := of_decide_eq_true hd3
      have hfin := (g3.put (i := 0) (.int .i64 9223372036854775807)).put (i := 1) (.int .u64 18446744073709551615)
      have hres := sub_high a0 a1 b0 b1 (by omega) (by omega) Hs.out hbw.out (by omega) (by omega) (by omega)
      exact bodyPost_ret (v := .agg #[.int .i64 9223372036854775807, .int .u64 18446744073709551615]) (by simp [results, Tryz.results121, go_sem, (show Blk _ _ #[.int .i64 9223372036854775807, .int .u64 18446744073709551615] _ from hfin).two]) rfl ⟨ret_w hres.1 hres.2, (g4.setCell (by simp; omega) _).setCell (by simp; omega) _⟩
  · skip
    go_enter Tryz.func121, Tryz.ntmps121
    go_wp2
    generalize hs : wrap64 (wrap64 (h1 - h2) - bw) = s
    have Hs := Lib.hid hs; clear hs
    rcases hd3 : decide (s < 0) with _ | _
    · skip
      refine wp_region_held_drew (S := (fun w' => Blk w' w.heap.size #[.int .i64 h1, .int .u64 l1] 125 ∧ Blk w' (w.heap.size + 1) #[.int .i64 h2, .int .u64 l2] 125 ∧ Blk w' (w.heap.size + 1 + 1) #[.int .i64 0, .int .u64 0] 125 ∧ Below w.heap.size w w')) (by kernel_rfl) ?_ (fun hHeld => ?_)
      · exact ⟨(((Blk.new rfl).old _).old _).drew, ((Blk.new (by simp)).old _).drew, (Blk.new (by simp)).drew, ((((Below.refl _ _).alloc (Nat.le_refl _) _).alloc (by simp) _).alloc (by simp; omega) _).drew⟩
      refine H.take 0 (v := ?_) rfl (by kernel_rfl) (fun _ _ _ h => h) (by rfl) ?_ (by assumption) ?_
      rotate_left
      · (intro wz hSw; (try dsimp only at hSw); go_simp <;> with_reducible rfl)
      try simp only [Act.put, List.setIfInBounds_toArray, List.set_cons_zero, List.set_cons_succ]
      refine H.take 2 (v := ?_) rfl (by kernel_rfl) (fun _ _ _ h => h) (by rfl) ?_ (by assumption) ?_
      rotate_left
      · (intro wz hSw; (try dsimp only at hSw); go_simp <;> with_reducible rfl)
      try simp only [Act.put, List.setIfInBounds_toArray, List.set_cons_zero, List.set_cons_succ]
      refine H.ready [1] (by kernel_rfl) (by simp) ?_
      refine H.one rfl (by rfl) (fun K hK => ?_) AllReadyH.nil
      go_simp
      go_at_call 78
      refine (negative_any _ _ _).mono ?_
      rintro e w' ⟨rfl, hb⟩
      refine hK.out _ _ ?_ (fun hHeld2 => ?_)
      · exact ⟨Blk.keep hb hHeld.1, Blk.keep hb hHeld.2.1, Blk.keep hb hHeld.2.2.1, hHeld.2.2.2.trans (hb.mono hHeld.2.2.2.size)⟩
      clear hHeld hK K; have hHeld := hHeld2; clear hHeld2
      try simp only [Act.put, List.setIfInBounds_toArray, List.set_cons_zero, List.set_cons_succ]
      refine H.ready [3] (by kernel_rfl) (by simp) ?_
      refine H.one rfl (by rfl) (fun K hK => ?_) AllReadyH.nil
      go_simp
      go_at_call 78
      refine (negative_any _ _ _).mono ?_
      rintro e w' ⟨rfl, hb⟩
      refine hK.out _ _ ?_ (fun hHeld2 => ?_)
      · exact ⟨Blk.keep hb hHeld.1, Blk.keep hb hHeld.2.1, Blk.keep hb hHeld.2.2.1, hHeld.2.2.2.trans (hb.mono hHeld.2.2.2.size)⟩
      clear hHeld hK K; have hHeld := hHeld2; clear hHeld2
      try simp only [Act.put, List.setIfInBounds_toArray, List.set_cons_zero, List.set_cons_succ]
      refine H.take 4 (v := ?_) rfl (by kernel_rfl) (fun _ _ _ h => h) (by rfl) ?_ (by assumption) ?_
      rotate_left
      · (intro wz hSw; (try dsimp only at hSw); go_simp <;> with_reducible rfl)
      try simp only [Act.put, List.setIfInBounds_toArray, List.set_cons_zero, List.set_cons_succ]
      refine H.take 5 (v := ?_) rfl (by kernel_rfl) (fun _ _ _ h => h) (by rfl) ?_ (by assumption) ?_
      rotate_left
      · (intro wz hSw; (try dsimp only at hSw); go_simp <;> with_reducible rfl)
      try simp only [Act.put, List.setIfInBounds_toArray, List.set_cons_zero, List.set_cons_succ]
      refine H.take 6 (v := ?_) rfl (by kernel_rfl) (fun _ _ _ h => h) (by rfl) ?_ (by assumption) ?_
      rotate_left
      · (intro wz hSw; (try dsimp only at hSw); go_simp <;> with_reducible rfl)
      try simp only [Act.put, List.setIfInBounds_toArray, List.set_cons_zero, List.set_cons_succ]
      refine H.take 7 (v := ?_) rfl (by kernel_rfl) (fun _ _ _ h => h) (by rfl) ?_ (by assumption) ?_
      rotate_left
      · (intro wz hSw; (try dsimp only at hSw); go_simp <;> with_reducible rfl)
      try simp only [Act.put, List.setIfInBounds_toArray, List.set_cons_zero, List.set_cons_succ]
      refine H.take 8 (v := ?_) rfl (by kernel_rfl) (fun _ _ _ h => h) (by rfl) ?_ (by assumption) ?_
      rotate_left
      · (intro wz hSw; (try dsimp only at hSw); go_simp <;> with_reducible rfl)
      try simp only [Act.put, List.setIfInBounds_toArray, List.set_cons_zero, List.set_cons_succ]
      refine H.ready [9] (by kernel_rfl) (by simp) ?_
      refine H.one rfl (by rfl) (fun K hK => ?_) AllReadyH.nil
      go_simp
      go_at_call 78
      refine (negative_any _ _ _).mono ?_
      rintro e w' ⟨rfl, hb⟩
      refine hK.out _ _ ?_ (fun hHeld2 => ?_)
      · exact ⟨Blk.keep hb hHeld.1, Blk.keep hb hHeld.2.1, Blk.keep hb hHeld.2.2.1, hHeld.2.2.2.trans (hb.mono hHeld.2.2.2.size)⟩
      clear hHeld hK K; have hHeld := hHeld2; clear hHeld2
      try simp only [Act.put, List.setIfInBounds_toArray, List.set_cons_zero, List.set_cons_succ]
      refine H.take 10 (v := ?_) rfl (by kernel_rfl) (fun _ _ _ h => h) (by rfl) ?_ (by assumption) ?_
      rotate_left
      · (intro wz hSw; (try dsimp only at hSw); go_simp <;> with_reducible rfl)
      try simp only [Act.put, List.setIfInBounds_toArray, List.set_cons_zero, List.set_cons_succ]
      refine H.take 11 (v := ?_) rfl (by kernel_rfl) (fun _ _ _ h => h) (by rfl) ?_ (by assumption) ?_
      rotate_left
      · (intro wz hSw; (try dsimp only at hSw); go_simp <;> with_reducible rfl)
      try simp only [Act.put, List.setIfInBounds_toArray, List.set_cons_zero, List.set_cons_succ]
      refine H.done (by kernel_rfl) ?_ _
      obtain ⟨g1, g2, g3, g4⟩ := hHeld
      have e1 := of_decide_eq_true hd1; have e2 := of_decide_eq_false hd2
      go_wp2_with (first | (go_at_call 78; refine (negative_any _ _ _).mono ?_; rintro e w' ⟨rfl, hb⟩; replace g3 := Blk.keep hb g3; replace g4 := g4.trans (hb.mono g4.size)) | (go_at_call 94; refine (bound_low _).mono ?_; rintro e w' ⟨rfl, hb⟩; replace g3 := Blk.keep hb g3; replace g4 := g4.trans (hb.mono g4.size)) | (go_at_call 94; refine (bound_high _).mono ?_; rintro e w' ⟨rfl, hb⟩; replace g3 := Blk.keep hb g3; replace g4 := g4.trans (hb.mono g4.size)))
      have e3 := of_decide_eq_false hd3
      have hfin := (g3.put (i := 0) (.int .i64 (-9223372036854775808))).put (i := 1) (.int .u64 0)
      have hres := sub_low a0 a1 b0 b1 (by omega) (by omega) Hs.out hbw.out (by omega) (by omega) (by omega)
      exact bodyPost_ret (v := .agg #[.int .i64 (-9223372036854775808), .int .u64 0]) (by simp [results, Tryz.results121, go_sem, (show Blk _ _ #[.int .i64 (-9223372036854775808), .int .u64 0] _ from hfin).two]) rfl ⟨ret_w hres.1 hres.2, (g4.setCell (by simp; omega) _).setCell (by simp; omega) _⟩
    · skip
      refine wp_region_held_drew (S := (fun w' => Blk w' w.heap.size #[.int .i64 h1, .int .u64 l1] 125 ∧ Blk w' (w.heap.size + 1) #[.int .i64 h2, .int .u64 l2] 125 ∧ Blk w' (w.heap.size + 1 + 1) #[.int .i64 0, .int .u64 0] 125 ∧ Below w.heap.size w w')) (by kernel_rfl) ?_ (fun hHeld => ?_)
      · exact ⟨(((Blk.new rfl).old _).old _).drew, ((Blk.new (by simp)).old _).drew, (Blk.new (by simp)).drew, ((((Below.refl _ _).alloc (Nat.le_refl _) _).alloc (by simp) _).alloc (by simp; omega) _).drew⟩
      refine H.take 0 (v := ?_) rfl (by kernel_rfl) (fun _ _ _ h => h) (by rfl) ?_ (by assumption) ?_
      rotate_left
      · (intro wz hSw; (try dsimp only at hSw); go_simp <;> with_reducible rfl)
      try simp only [Act.put, List.setIfInBounds_toArray, List.set_cons_zero, List.set_cons_succ]
      refine H.take 2 (v := ?_) rfl (by kernel_rfl) (fun _ _ _ h => h) (by rfl) ?_ (by assumption) ?_
      rotate_left
      · (intro wz hSw; (try dsimp only at hSw); go_simp <;> with_reducible rfl)
      try simp only [Act.put, List.setIfInBounds_toArray, List.set_cons_zero, List.set_cons_succ]
      refine H.ready [1] (by kernel_rfl) (by simp) ?_
      refine H.one rfl (by rfl) (fun K hK => ?_) AllReadyH.nil
      go_simp
      go_at_call 78
      refine (negative_any _ _ _).mono ?_
      rintro e w' ⟨rfl, hb⟩
      refine hK.out _ _ ?_ (fun hHeld2 => ?_)
      · exact ⟨Blk.keep hb hHeld.1, Blk.keep hb hHeld.2.1, Blk.keep hb hHeld.2.2.1, hHeld.2.2.2.trans (hb.mono hHeld.2.2.2.size)⟩
      clear hHeld hK K; have hHeld := hHeld2; clear hHeld2
      try simp only [Act.put, List.setIfInBounds_toArray, List.set_cons_zero, List.set_cons_succ]
      refine H.ready [3] (by kernel_rfl) (by simp) ?_
      refine H.one rfl (by rfl) (fun K hK => ?_) AllReadyH.nil
      go_simp
      go_at_call 78
      refine (negative_any _ _ _).mono ?_
      rintro e w' ⟨rfl, hb⟩
      refine hK.out _ _ ?_ (fun hHeld2 => ?_)
      · exact ⟨Blk.keep hb hHeld.1, Blk.keep hb hHeld.2.1, Blk.keep hb hHeld.2.2.1, hHeld.2.2.2.trans (hb.mono hHeld.2.2.2.size)⟩
      clear hHeld hK K; have hHeld := hHeld2; clear hHeld2
      try simp only [Act.put, List.setIfInBounds_toArray, List.set_cons_zero, List.set_cons_succ]
      refine H.take 4 (v := ?_) rfl (by kernel_rfl) (fun _ _ _ h => h) (by rfl) ?_ (by assumption) ?_
      rotate_left
      · (intro wz hSw; (try dsimp only at hSw); go_simp <;> with_reducible rfl)
      try simp only [Act.put, List.setIfInBounds_toArray, List.set_cons_zero, List.set_cons_succ]
      refine H.take 5 (v := ?_) rfl (by kernel_rfl) (fun _ _ _ h => h) (by rfl) ?_ (by assumption) ?_
      rotate_left
      · (intro wz hSw; (try dsimp only at hSw); go_simp <;> with_reducible rfl)
      try simp only [Act.put, List.setIfInBounds_toArray, List.set_cons_zero, List.set_cons_succ]
      refine H.take 6 (v := ?_) rfl (by kernel_rfl) (fun _ _ _ h => h) (by rfl) ?_ (by assumption) ?_
      rotate_left
      · (intro wz hSw; (try dsimp only at hSw); go_simp <;> with_reducible rfl)
      try simp only [Act.put, List.setIfInBounds_toArray, List.set_cons_zero, List.set_cons_succ]
      refine H.take 7 (v := ?_) rfl (by kernel_rfl) (fun _ _ _ h => h) (by rfl) ?_ (by assumption) ?_
      rotate_left
      · (intro wz hSw; (try dsimp only at hSw); go_simp <;> with_reducible rfl)
      try simp only [Act.put, List.setIfInBounds_toArray, List.set_cons_zero, List.set_cons_succ]
      refine H.take 8 (v := ?_) rfl (by kernel_rfl) (fun _ _ _ h => h) (by rfl) ?_ (by assumption) ?_
      rotate_left
      · (intro wz hSw; (try dsimp only at hSw); go_simp <;> with_reducible rfl)
      try simp only [Act.put, List.setIfInBounds_toArray, List.set_cons_zero, List.set_cons_succ]
      refine H.ready [9] (by kernel_rfl) (by simp) ?_
      refine H.one rfl (by rfl) (fun K hK => ?_) AllReadyH.nil
      go_simp
      go_at_call 78
      refine (negative_any _ _ _).mono ?_
      rintro e w' ⟨rfl, hb⟩
      refine hK.out _ _ ?_ (fun hHeld2 => ?_)
      · exact ⟨Blk.keep hb hHeld.1, Blk.keep hb hHeld.2.1, Blk.keep hb hHeld.2.2.1, hHeld.2.2.2.trans (hb.mono hHeld.2.2.2.size)⟩
      clear hHeld hK K; have hHeld := hHeld2; clear hHeld2
      try simp only [Act.put, List.setIfInBounds_toArray, List.set_cons_zero, List.set_cons_succ]
      refine H.take 10 (v := ?_) rfl (by kernel_rfl) (fun _ _ _ h => h) (by rfl) ?_ (by assumption) ?_
      rotate_left
      · (intro wz hSw; (try dsimp only at hSw); go_simp <;> with_reducible rfl)
      try simp only [Act.put, List.setIfInBounds_toArray, List.set_cons_zero, List.set_cons_succ]
      refine H.take 11 (v := ?_) rfl (by kernel_rfl) (fun _ _ _ h => h) (by rfl) ?_ (by assumption) ?_
      rotate_left
      · (intro wz hSw; (try dsimp only at hSw); go_simp <;> with_reducible rfl)
      try simp only [Act.put, List.setIfInBounds_toArray, List.set_cons_zero, List.set_cons_succ]
      refine H.done (by kernel_rfl) ?_ _
      obtain ⟨g1, g2, g3, g4⟩ := hHeld
      have e1 := of_decide_eq_true hd1; have e2 := of_decide_eq_false hd2
      go_wp2_with (first | (go_at_call 78; refine (negative_any _ _ _).mono ?_; rintro e w' ⟨rfl, hb⟩; replace g3 := Blk.keep hb g3; replace g4 := g4.trans (hb.mono g4.size)) | (go_at_call 94; refine (bound_low _).mono ?_; rintro e w' ⟨rfl, hb⟩; replace g3 := Blk.keep hb g3; replace g4 := g4.trans (hb.mono g4.size)) | (go_at_call 94; refine (bound_high _).mono ?_; rintro e w' ⟨rfl, hb⟩; replace g3 := Blk.keep hb g3; replace g4 := g4.trans (hb.mono g4.size)))
      have e3 := of_decide_eq_true hd3
      have hfin := (g3.put (i := 0) (.int .i64 s)).put (i := 1) (.int .u64 ((l1 + 18446744073709551616 - l2) % 18446744073709551616))
      have hres := sub_fits a0 a1 b0 b1 c0 c1 d0 d1 Hs.out hbw.out (by omega)
      exact bodyPost_ret (v := .agg #[.int .i64 s, .int .u64 ((l1 + 18446744073709551616 - l2) % 18446744073709551616)]) (by simp [results, Tryz.results121, go_sem, (show Blk _ _ #[.int .i64 s, .int .u64 ((l1 + 18446744073709551616 - l2) % 18446744073709551616)] _ from hfin).two]) rfl ⟨ret_w hres.1 hres.2, (g4.setCell (by simp; omega) _).setCell (by simp; omega) _⟩
  · skip
    go_enter Tryz.func121, Tryz.ntmps121
    go_wp2
    generalize hs : wrap64 (wrap64 (h1 - h2) - bw) = s
    have Hs := Lib.hid hs; clear hs
    refine wp_region_held_drew (S := (fun w' => Blk w' w.heap.size #[.int .i64 h1, .int .u64 l1] 125 ∧ Blk w' (w.heap.size + 1) #[.int .i64 h2, .int .u64 l2] 125 ∧ Blk w' (w.heap.size + 1 + 1) #[.int .i64 0, .int .u64 0] 125 ∧ Below w.heap.size w w')) (by kernel_rfl) ?_ (fun hHeld => ?_)
    · exact ⟨(((Blk.new rfl).old _).old _).drew, ((Blk.new (by simp)).old _).drew, (Blk.new (by simp)).drew, ((((Below.refl _ _).alloc (Nat.le_refl _) _).alloc (by simp) _).alloc (by simp; omega) _).drew⟩
    refine H.take 0 (v := ?_) rfl (by kernel_rfl) (fun _ _ _ h => h) (by rfl) ?_ (by assumption) ?_
    rotate_left
    · (intro wz hSw; (try dsimp only at hSw); go_simp <;> with_reducible rfl)
    try simp only [Act.put, List.setIfInBounds_toArray, List.set_cons_zero, List.set_cons_succ]
    refine H.take 2 (v := ?_) rfl (by kernel_rfl) (fun _ _ _ h => h) (by rfl) ?_ (by assumption) ?_
    rotate_left
    · (intro wz hSw; (try dsimp only at hSw); go_simp <;> with_reducible rfl)
    try simp only [Act.put, List.setIfInBounds_toArray, List.set_cons_zero, List.set_cons_succ]
    refine H.ready [1] (by kernel_rfl) (by simp) ?_
    refine H.one rfl (by rfl) (fun K hK => ?_) AllReadyH.nil
    go_simp
    go_at_call 78
    refine (negative_any _ _ _).mono ?_
    rintro e w' ⟨rfl, hb⟩
    refine hK.out _ _ ?_ (fun hHeld2 => ?_)
    · exact ⟨Blk.keep hb hHeld.1, Blk.keep hb hHeld.2.1, Blk.keep hb hHeld.2.2.1, hHeld.2.2.2.trans (hb.mono hHeld.2.2.2.size)⟩
    clear hHeld hK K; have hHeld := hHeld2; clear hHeld2
    try simp only [Act.put, List.setIfInBounds_toArray, List.set_cons_zero, List.set_cons_succ]
    refine H.ready [3] (by kernel_rfl) (by simp) ?_
    refine H.one rfl (by rfl) (fun K hK => ?_) AllReadyH.nil
    go_simp
    go_at_call 78
    refine (negative_any _ _ _).mono ?_
    rintro e w' ⟨rfl, hb⟩
    refine hK.out _ _ ?_ (fun hHeld2 => ?_)
    · exact ⟨Blk.keep hb hHeld.1, Blk.keep hb hHeld.2.1, Blk.keep hb hHeld.2.2.1, hHeld.2.2.2.trans (hb.mono hHeld.2.2.2.size)⟩
    clear hHeld hK K; have hHeld := hHeld2; clear hHeld2
    try simp only [Act.put, List.setIfInBounds_toArray, List.set_cons_zero, List.set_cons_succ]
    refine H.take 4 (v := ?_) rfl (by kernel_rfl) (fun _ _ _ h => h) (by rfl) ?_ (by assumption) ?_
    rotate_left
    · (intro wz hSw; (try dsimp only at hSw); go_simp <;> with_reducible rfl)
    try simp only [Act.put, List.setIfInBounds_toArray, List.set_cons_zero, List.set_cons_succ]
    refine H.take 5 (v := ?_) rfl (by kernel_rfl) (fun _ _ _ h => h) (by rfl) ?_ (by assumption) ?_
    rotate_left
    · (intro wz hSw; (try dsimp only at hSw); go_simp <;> with_reducible rfl)
    try simp only [Act.put, List.setIfInBounds_toArray, List.set_cons_zero, List.set_cons_succ]
    refine H.skip 6 rfl (by kernel_rfl) (fun _ _ _ h => h) (by rfl) (by assumption) ?_
    try simp only [Act.put, List.setIfInBounds_toArray, List.set_cons_zero, List.set_cons_succ]
    refine H.skip 7 rfl (by kernel_rfl) (fun _ _ _ h => h) (by rfl) (by assumption) ?_
    try simp only [Act.put, List.setIfInBounds_toArray, List.set_cons_zero, List.set_cons_succ]
    refine H.skip 8 rfl (by kernel_rfl) (fun _ _ _ h => h) (by rfl) (by assumption) ?_
    try simp only [Act.put, List.setIfInBounds_toArray, List.set_cons_zero, List.set_cons_succ]
    refine H.skip 9 rfl (by kernel_rfl) (fun _ _ _ h => h) (by rfl) (by assumption) ?_
    try simp only [Act.put, List.setIfInBounds_toArray, List.set_cons_zero, List.set_cons_succ]
    refine H.skip 10 rfl (by kernel_rfl) (fun _ _ _ h => h) (by rfl) (by assumption) ?_
    try simp only [Act.put, List.setIfInBounds_toArray, List.set_cons_zero, List.set_cons_succ]
    refine H.take 11 (v := ?_) rfl (by kernel_rfl) (fun _ _ _ h => h) (by rfl) ?_ (by assumption) ?_
    rotate_left
    · (intro wz hSw; (try dsimp only at hSw); go_simp <;> with_reducible rfl)
    try simp only [Act.put, List.setIfInBounds_toArray, List.set_cons_zero, List.set_cons_succ]
    refine H.done (by kernel_rfl) ?_ _
    obtain ⟨g1, g2, g3, g4⟩ := hHeld
    have e1 := of_decide_eq_true hd1; have e2 := of_decide_eq_true hd2
    go_wp2_with (first | (go_at_call 78; refine (negative_any _ _ _).mono ?_; rintro e w' ⟨rfl, hb⟩; replace g3 := Blk.keep hb g3; replace g4 := g4.trans (hb.mono g4.size)) | (go_at_call 94; refine (bound_low _).mono ?_; rintro e w' ⟨rfl, hb⟩; replace g3 := Blk.keep hb g3; replace g4 := g4.trans (hb.mono g4.size)) | (go_at_call 94; refine (bound_high _).mono ?_; rintro e w' ⟨rfl, hb⟩; replace g3 := Blk.keep hb g3; replace g4 := g4.trans (hb.mono g4.size)))
    have hfin := (g3.put (i := 0) (.int .i64 s)).put (i := 1) (.int .u64 ((l1 + 18446744073709551616 - l2) % 18446744073709551616))
    have hres := sub_fits a0 a1 b0 b1 c0 c1 d0 d1 Hs.out hbw.out (by omega)
    exact bodyPost_ret (v := .agg #[.int .i64 s, .int .u64 ((l1 + 18446744073709551616 - l2) % 18446744073709551616)]) (by simp [results, Tryz.results121, go_sem, (show Blk _ _ #[.int .i64 s, .int .u64 ((l1 + 18446744073709551616 - l2) % 18446744073709551616)] _ from hfin).two]) rfl ⟨ret_w hres.1 hres.2, (g4.setCell (by simp; omega) _).setCell (by simp; omega) _⟩

end Go.Proofs.YtidkpdabidlnnaaGreatDoor

/-
  DERIVED: THE SHELF's CONTRACTS AT THIS DUMP, IN PLAIN WORDS (tools/lay-plain.mjs out of 'TryzShelf.lean', which tools/lay-shelf.mjs wrote): THE SAME DECLARATIONS UNDER THE SAME NAMES: 'import', 'namespace', 'open', 'def', 'theorem' AND NOTHING ELSE: no command of the shelf's: FOR A HAND-IN. Each laying: the table of numbers ('.._ren') and one theorem, a field a fact of the dump's own or the kernel's comparison; each contract: ONE APPLICATION.
-/
namespace Go.Proofs
open Go.Shelf
def Tryz.lays170_ren : Go.Shelf.Ren := ⟨fun | 170 => 117 | n => n, fun | 70 => 186 | 3 => 3 | 0 => 0 | 72 => 188 | 37 => 53 | 5 => 5 | n => n, fun | n => n⟩
theorem Tryz.lays170 : Go.Proofs.Lays.n170 Tryz.prog Tryz.lays170_ren := {
  mixed := by kernel_rfl
  f170 := Tryz.func117.trans (congrArg some (by kernel_rfl))
  t0 := Tryz.underlying0
  a0 := Tryz.isAgg0
  z0 := Tryz.sizeOf0
  v0 := Tryz.zeroValue0
  t3 := Tryz.underlying3
  a3 := Tryz.isAgg3
  z3 := Tryz.sizeOf3
  v3 := Tryz.zeroValue3
  t37 := Tryz.underlying53
  a37 := Tryz.isAgg53
  z37 := Tryz.sizeOf53
  v37 := Tryz.zeroValue53
  t70 := Tryz.underlying186
  a70 := Tryz.isAgg186
  z70 := Tryz.sizeOf186
  v70 := Tryz.zeroValue186
  t72 := Tryz.underlying188
  a72 := Tryz.isAgg188
  z72 := Tryz.sizeOf188
  v72 := Tryz.zeroValue188 }
open Go.RowKit in
/-- (*strings.Builder).Len: "Len returns the number of accumulated bytes; b.Len() == len(b.String()).": the world is as it was. (LAID: no walk: one application.) -/
theorem Tryz.Builder_Len (B b : Nat) (bs : List Value) (w : World) (h : Lib.IsBuilder 188 5 B b bs w) :
    Calls Tryz.prog 117 #[.pointer (some ⟨b, 0, none⟩)] w fun e w' => e = .returned (.int .i64 bs.length) ∧ w' = w := Any.Builder_Len Tryz.lays170 B b bs w h
def Tryz.lays169_ren : Go.Shelf.Ren := ⟨fun | 169 => 118 | n => n, fun | 70 => 186 | 9 => 9 | 0 => 0 | 72 => 188 | 37 => 53 | 127 => 197 | 3 => 3 | 5 => 5 | n => n, fun | n => n⟩
theorem Tryz.lays169 : Go.Proofs.Lays.n169 Tryz.prog Tryz.lays169_ren := {
  mixed := by kernel_rfl
  f169 := Tryz.func118.trans (congrArg some (by kernel_rfl))
  t0 := Tryz.underlying0
  a0 := Tryz.isAgg0
  z0 := Tryz.sizeOf0
  v0 := Tryz.zeroValue0
  t3 := Tryz.underlying3
  a3 := Tryz.isAgg3
  z3 := Tryz.sizeOf3
  v3 := Tryz.zeroValue3
  t9 := Tryz.underlying9
  a9 := Tryz.isAgg9
  z9 := Tryz.sizeOf9
  v9 := Tryz.zeroValue9
  t37 := Tryz.underlying53
  a37 := Tryz.isAgg53
  z37 := Tryz.sizeOf53
  v37 := Tryz.zeroValue53
  t70 := Tryz.underlying186
  a70 := Tryz.isAgg186
  z70 := Tryz.sizeOf186
  v70 := Tryz.zeroValue186
  t72 := Tryz.underlying188
  a72 := Tryz.isAgg188
  z72 := Tryz.sizeOf188
  v72 := Tryz.zeroValue188
  t127 := Tryz.underlying197
  a127 := Tryz.isAgg197
  z127 := Tryz.sizeOf197
  v127 := Tryz.zeroValue197 }
theorem Tryz.Builder_Extra_169 : Builder.Extra Tryz.prog Tryz.lays169_ren := {
  sizeBuilder := by kernel_rfl
  liesBuilder := by kernel_rfl
  t5 := Tryz.underlying5
  a5 := Tryz.isAgg5
  z5 := Tryz.sizeOf5
  v5 := Tryz.zeroValue5
  infoByte := by kernel_rfl
  cellsByte := by kernel_rfl
  sizeByte := by kernel_rfl
  neB5 := by decide }
open Go.RowKit in
/-- (*strings.Builder).String: "String returns the accumulated string.": OF A BUILDER THAT HOLDS AT LEAST ONE BYTE. ✋ THE MODEL FREEZES THOSE BYTES IN THE BUFFER (unsafe.String): a later write INTO them ends the model's run without an answer; a later append BEHIND them goes on. The statement's order of evaluation is drawn: one draw. (LAID: no walk: one application.) -/
theorem Tryz.Builder_String (B b : Nat) (l : List UInt8) (w : World) (h : Lib.IsBuilder 188 5 B b (Lib.byteCells l) w) (h0 : l ≠ []) :
    Calls Tryz.prog 118 #[.pointer (some ⟨b, 0, none⟩)] w fun e w' => e = .returned (.string ⟨l.toArray⟩) ∧ Below B w w' := Any.Builder_String Tryz.lays169 Tryz.Builder_Extra_169 B b l w h h0
open Go.RowKit in
/-- (*strings.Builder).String OF A BUILDER THAT HOLDS NO BYTE: the empty string. (Its buffer is nil, or a row of which it has taken nothing yet; where that row has NO capacity the model lays one new block for unsafe.SliceData's 'some address'.) One draw. (LAID: no walk: one application.) -/
theorem Tryz.Builder_String_empty (B b : Nat) (w : World) (h : Lib.IsBuilder 188 5 B b [] w) (hBw : B ≤ w.heap.size) :
    Calls Tryz.prog 118 #[.pointer (some ⟨b, 0, none⟩)] w fun e w' => e = .returned (.string ⟨#[]⟩) ∧ Below B w w' := Any.Builder_String_empty Tryz.lays169 Tryz.Builder_Extra_169 B b w h hBw
open Go.RowKit in
/-- (*strings.Builder).String: "String returns the accumulated string.": WHATEVER THE BUILDER HOLDS. (LAID: no walk: one application.) -/
theorem Tryz.Builder_String_any (B b : Nat) (l : List UInt8) (w : World) (h : Lib.IsBuilder 188 5 B b (Lib.byteCells l) w) (hBw : B ≤ w.heap.size) :
    Calls Tryz.prog 118 #[.pointer (some ⟨b, 0, none⟩)] w fun e w' => e = .returned (.string ⟨l.toArray⟩) ∧ Below B w w' := Any.Builder_String_any Tryz.lays169 Tryz.Builder_Extra_169 B b l w h hBw
def Tryz.lays241_ren : Go.Shelf.Ren := ⟨fun | 241 => 126 | 277 => 128 | n => n, fun | 70 => 186 | 3 => 3 | 0 => 0 | 72 => 188 | 37 => 53 | 5 => 5 | n => n, fun | n => n⟩
theorem Tryz.lays241 : Go.Proofs.Lays.n241 Tryz.prog Tryz.lays241_ren := {
  mixed := by kernel_rfl
  f241 := Tryz.func126.trans (congrArg some (by kernel_rfl))
  f277 := Tryz.func128.trans (congrArg some (by kernel_rfl))
  t0 := Tryz.underlying0
  a0 := Tryz.isAgg0
  z0 := Tryz.sizeOf0
  v0 := Tryz.zeroValue0
  t3 := Tryz.underlying3
  a3 := Tryz.isAgg3
  z3 := Tryz.sizeOf3
  v3 := Tryz.zeroValue3
  t37 := Tryz.underlying53
  a37 := Tryz.isAgg53
  z37 := Tryz.sizeOf53
  v37 := Tryz.zeroValue53
  t70 := Tryz.underlying186
  a70 := Tryz.isAgg186
  z70 := Tryz.sizeOf186
  v70 := Tryz.zeroValue186
  t72 := Tryz.underlying188
  a72 := Tryz.isAgg188
  z72 := Tryz.sizeOf188
  v72 := Tryz.zeroValue188 }
theorem Tryz.Builder_Extra_241 : Builder.Extra Tryz.prog Tryz.lays241_ren := {
  sizeBuilder := by kernel_rfl
  liesBuilder := by kernel_rfl
  t5 := Tryz.underlying5
  a5 := Tryz.isAgg5
  z5 := Tryz.sizeOf5
  v5 := Tryz.zeroValue5
  infoByte := by kernel_rfl
  cellsByte := by kernel_rfl
  sizeByte := by kernel_rfl
  neB5 := by decide }
open Go.RowKit in
/-- (*strings.Builder).grow (no doc but "grow copies the buffer to a new, larger buffer so that there are at least n bytes of capacity beyond len(b.buf)."): AT A BUILDER WITHOUT A BUFFER: a new row of whatever bytes for its buffer, none of them its own yet. Three draws. (LAID: no walk: one application.) -/
theorem Tryz.Builder_grow_fresh (B b n : Nat) (w : World) (hB : B ≤ b) (hbk : w.heap[b]? = some (.cells #[.pointer (some ⟨b, 0, none⟩), .slice none 0 0] 188 (0, 0))) (hBw : B ≤ w.heap.size) (hn : n ≤ 281474976710656) :
    Calls Tryz.prog 126 #[.pointer (some ⟨b, 0, none⟩), .int .i64 n] w fun e w' => e = .returned (.tuple #[]) ∧ (Lib.BuilderAt 188 5 B b (.pointer (some ⟨b, 0, none⟩)) [] w' ∧ Below B w w') := Any.Builder_grow_fresh Tryz.lays241 Tryz.Builder_Extra_241 B b n w hB hbk hBw hn
def Tryz.lays165_ren : Go.Shelf.Ren := ⟨fun | 165 => 115 | 240 => 125 | 241 => 126 | 276 => 127 | 277 => 128 | n => n, fun | 70 => 186 | 3 => 3 | 0 => 0 | 4 => 4 | 9 => 9 | 20 => 20 | 72 => 188 | 37 => 53 | 164 => 94 | 5 => 5 | n => n, fun | n => n⟩
theorem Tryz.lays165 : Go.Proofs.Lays.n165 Tryz.prog Tryz.lays165_ren := {
  mixed := by kernel_rfl
  f165 := Tryz.func115.trans (congrArg some (by kernel_rfl))
  f240 := Tryz.func125.trans (congrArg some (by kernel_rfl))
  f241 := Tryz.func126.trans (congrArg some (by kernel_rfl))
  f276 := Tryz.func127.trans (congrArg some (by kernel_rfl))
  f277 := Tryz.func128.trans (congrArg some (by kernel_rfl))
  t0 := Tryz.underlying0
  a0 := Tryz.isAgg0
  z0 := Tryz.sizeOf0
  v0 := Tryz.zeroValue0
  t3 := Tryz.underlying3
  a3 := Tryz.isAgg3
  z3 := Tryz.sizeOf3
  v3 := Tryz.zeroValue3
  t4 := Tryz.underlying4
  a4 := Tryz.isAgg4
  z4 := Tryz.sizeOf4
  v4 := Tryz.zeroValue4
  t9 := Tryz.underlying9
  a9 := Tryz.isAgg9
  z9 := Tryz.sizeOf9
  v9 := Tryz.zeroValue9
  t20 := Tryz.underlying20
  a20 := Tryz.isAgg20
  z20 := Tryz.sizeOf20
  v20 := Tryz.zeroValue20
  t37 := Tryz.underlying53
  a37 := Tryz.isAgg53
  z37 := Tryz.sizeOf53
  v37 := Tryz.zeroValue53
  t70 := Tryz.underlying186
  a70 := Tryz.isAgg186
  z70 := Tryz.sizeOf186
  v70 := Tryz.zeroValue186
  t72 := Tryz.underlying188
  a72 := Tryz.isAgg188
  z72 := Tryz.sizeOf188
  v72 := Tryz.zeroValue188
  t164 := Tryz.underlying94
  a164 := Tryz.isAgg94
  z164 := Tryz.sizeOf94
  v164 := Tryz.zeroValue94 }
theorem Tryz.Builder_Extra_165 : Builder.Extra Tryz.prog Tryz.lays165_ren := {
  sizeBuilder := by kernel_rfl
  liesBuilder := by kernel_rfl
  t5 := Tryz.underlying5
  a5 := Tryz.isAgg5
  z5 := Tryz.sizeOf5
  v5 := Tryz.zeroValue5
  infoByte := by kernel_rfl
  cellsByte := by kernel_rfl
  sizeByte := by kernel_rfl
  neB5 := by decide }
open Go.RowKit in
/-- (*strings.Builder).Grow AT A BUILDER THAT HAS NOT BEEN WRITTEN ('var b strings.Builder; b.Grow(n)'): "Grow grows b's capacity, if necessary, to guarantee space for another n bytes.": it holds no byte behind it as before it. (LAID: no walk: one application.) -/
theorem Tryz.Builder_Grow_fresh (B b n : Nat) (w : World) (hB : B ≤ b) (hbk : w.heap[b]? = some (.cells #[.pointer none, .slice none 0 0] 188 (0, 0))) (hBw : B ≤ w.heap.size) (hn : n ≤ 281474976710656) :
    Calls Tryz.prog 115 #[.pointer (some ⟨b, 0, none⟩), .int .i64 n] w fun e w' => e = .returned (.tuple #[]) ∧ (Lib.BuilderAt 188 5 B b (.pointer (some ⟨b, 0, none⟩)) [] w' ∧ Below B w w') := Any.Builder_Grow_fresh Tryz.lays165 Tryz.Builder_Extra_165 B b n w hB hbk hBw hn
def Tryz.lays231_ren : Go.Shelf.Ren := ⟨fun | 231 => 58 | n => n, fun | 9 => 9 | 5 => 5 | 3 => 3 | 4 => 4 | n => n, fun | n => n⟩
theorem Tryz.lays231 : Go.Proofs.Lays.n231 Tryz.prog Tryz.lays231_ren := {
  mixed := by kernel_rfl
  f231 := Tryz.func58.trans (congrArg some (by kernel_rfl))
  t3 := Tryz.underlying3
  a3 := Tryz.isAgg3
  z3 := Tryz.sizeOf3
  v3 := Tryz.zeroValue3
  t4 := Tryz.underlying4
  a4 := Tryz.isAgg4
  z4 := Tryz.sizeOf4
  v4 := Tryz.zeroValue4
  t5 := Tryz.underlying5
  a5 := Tryz.isAgg5
  z5 := Tryz.sizeOf5
  v5 := Tryz.zeroValue5
  t9 := Tryz.underlying9
  a9 := Tryz.isAgg9
  z9 := Tryz.sizeOf9
  v9 := Tryz.zeroValue9 }
open Go.RowKit in
/-- strings.trimLeftByte (no doc; what TrimLeft and Trim call at a cutset of one ASCII byte): the leading bytes that are c are cut off. The world is as it was. (LAID: no walk: one application.) -/
theorem Tryz.strings_trimLeftByte (s : ByteArray) (c : UInt8) (w : World) :
    Calls Tryz.prog 58 #[.string s, .int .u8 c.toNat] w fun e w' => e = .returned (.string ⟨(Lib.trimLeftB s.data.toList c).toArray⟩) ∧ w' = w := Any.strings_trimLeftByte Tryz.lays231 s c w
def Tryz.lays232_ren : Go.Shelf.Ren := ⟨fun | 232 => 59 | n => n, fun | 9 => 9 | 5 => 5 | 3 => 3 | 4 => 4 | n => n, fun | n => n⟩
theorem Tryz.lays232 : Go.Proofs.Lays.n232 Tryz.prog Tryz.lays232_ren := {
  mixed := by kernel_rfl
  f232 := Tryz.func59.trans (congrArg some (by kernel_rfl))
  t3 := Tryz.underlying3
  a3 := Tryz.isAgg3
  z3 := Tryz.sizeOf3
  v3 := Tryz.zeroValue3
  t4 := Tryz.underlying4
  a4 := Tryz.isAgg4
  z4 := Tryz.sizeOf4
  v4 := Tryz.zeroValue4
  t5 := Tryz.underlying5
  a5 := Tryz.isAgg5
  z5 := Tryz.sizeOf5
  v5 := Tryz.zeroValue5
  t9 := Tryz.underlying9
  a9 := Tryz.isAgg9
  z9 := Tryz.sizeOf9
  v9 := Tryz.zeroValue9 }
open Go.RowKit in
/-- strings.trimRightByte (no doc; what TrimRight and Trim call at a cutset of one ASCII byte): the trailing bytes that are c are cut off. The world is as it was. ('hs': a string's length is a number that an int holds.) (LAID: no walk: one application.) -/
theorem Tryz.strings_trimRightByte (s : ByteArray) (c : UInt8) (w : World) (hs : s.size ≤ 9223372036854775807) :
    Calls Tryz.prog 59 #[.string s, .int .u8 c.toNat] w fun e w' => e = .returned (.string ⟨(Lib.trimRightB s.data.toList c).toArray⟩) ∧ w' = w := Any.strings_trimRightByte Tryz.lays232 s c w hs
def Tryz.lays160_ren : Go.Shelf.Ren := ⟨fun | 160 => 48 | 232 => 59 | 231 => 58 | 227 => 60 | 234 => 62 | 233 => 61 | 236 => 64 | 235 => 63 | 228 => 79 | 271 => 81 | 151 => 80 | 197 => 70 | 120 => 102 | 152 => 101 | 260 => 87 | 137 => 119 | 119 => 120 | 224 => 90 | 225 => 89 | 217 => 88 | 266 => 105 | n => n, fun | 9 => 9 | 4 => 4 | 3 => 3 | 5 => 5 | 117 => 133 | 116 => 132 | 0 => 0 | 124 => 136 | 21 => 21 | 105 => 144 | 46 => 154 | 119 => 175 | 139 => 178 | 138 => 177 | n => n, fun | 3 => 3 | 4 => 4 | n => n⟩
theorem Tryz.lays160 : Go.Proofs.Lays.n160 Tryz.prog Tryz.lays160_ren := {
  mixed := by kernel_rfl
  f119 := Tryz.func120.trans (congrArg some (by kernel_rfl))
  f120 := Tryz.func102.trans (congrArg some (by kernel_rfl))
  f137 := Tryz.func119.trans (congrArg some (by kernel_rfl))
  f151 := Tryz.func80.trans (congrArg some (by kernel_rfl))
  f152 := Tryz.func101.trans (congrArg some (by kernel_rfl))
  f160 := Tryz.func48.trans (congrArg some (by kernel_rfl))
  f197 := Tryz.func70.trans (congrArg some (by kernel_rfl))
  f217 := Tryz.func88.trans (congrArg some (by kernel_rfl))
  f224 := Tryz.func90.trans (congrArg some (by kernel_rfl))
  f225 := Tryz.func89.trans (congrArg some (by kernel_rfl))
  f227 := Tryz.func60.trans (congrArg some (by kernel_rfl))
  f228 := Tryz.func79.trans (congrArg some (by kernel_rfl))
  f231 := Tryz.func58.trans (congrArg some (by kernel_rfl))
  f232 := Tryz.func59.trans (congrArg some (by kernel_rfl))
  f233 := Tryz.func61.trans (congrArg some (by kernel_rfl))
  f234 := Tryz.func62.trans (congrArg some (by kernel_rfl))
  f235 := Tryz.func63.trans (congrArg some (by kernel_rfl))
  f236 := Tryz.func64.trans (congrArg some (by kernel_rfl))
  f260 := Tryz.func87.trans (congrArg some (by kernel_rfl))
  f266 := Tryz.func105.trans (congrArg some (by kernel_rfl))
  f271 := Tryz.func81.trans (congrArg some (by kernel_rfl))
  t0 := Tryz.underlying0
  a0 := Tryz.isAgg0
  z0 := Tryz.sizeOf0
  v0 := Tryz.zeroValue0
  t3 := Tryz.underlying3
  a3 := Tryz.isAgg3
  z3 := Tryz.sizeOf3
  v3 := Tryz.zeroValue3
  t4 := Tryz.underlying4
  a4 := Tryz.isAgg4
  z4 := Tryz.sizeOf4
  v4 := Tryz.zeroValue4
  t5 := Tryz.underlying5
  a5 := Tryz.isAgg5
  z5 := Tryz.sizeOf5
  v5 := Tryz.zeroValue5
  t9 := Tryz.underlying9
  a9 := Tryz.isAgg9
  z9 := Tryz.sizeOf9
  v9 := Tryz.zeroValue9
  t21 := Tryz.underlying21
  a21 := Tryz.isAgg21
  z21 := Tryz.sizeOf21
  v21 := Tryz.zeroValue21
  t46 := Tryz.underlying154
  a46 := Tryz.isAgg154
  z46 := Tryz.sizeOf154
  v46 := Tryz.zeroValue154
  t105 := Tryz.underlying144
  a105 := Tryz.isAgg144
  z105 := Tryz.sizeOf144
  v105 := Tryz.zeroValue144
  t116 := Tryz.underlying132
  a116 := Tryz.isAgg132
  z116 := Tryz.sizeOf132
  t117 := Tryz.underlying133
  a117 := Tryz.isAgg133
  z117 := Tryz.sizeOf133
  v117 := Tryz.zeroValue133
  t119 := Tryz.underlying175
  a119 := Tryz.isAgg175
  z119 := Tryz.sizeOf175
  t124 := Tryz.underlying136
  a124 := Tryz.isAgg136
  z124 := Tryz.sizeOf136
  v124 := Tryz.zeroValue136
  t138 := Tryz.underlying177
  a138 := Tryz.isAgg177
  z138 := Tryz.sizeOf177
  v138 := Tryz.zeroValue177
  t139 := Tryz.underlying178
  a139 := Tryz.isAgg178
  z139 := Tryz.sizeOf178
  v139 := Tryz.zeroValue178
  g3 := by kernel_rfl
  g4 := by kernel_rfl }
open Go.RowKit in
/-- strings.Trim: "Trim returns a slice of the string s with all leading and trailing Unicode code points contained in cutset removed.": AT A cutset OF ONE ASCII BYTE. THE WORLD BEHIND IT: as it was, or (where s is not empty) with ONE DRAW MORE off the tape: the statement 'return trimLeftByte(trimRightByte(s, c), c)' draws its order of evaluation. (LAID: no walk: one application.) -/
theorem Tryz.strings_Trim_one (s : ByteArray) (c : UInt8) (hc : c.toNat < 128) (w : World) (hs : s.size ≤ 9223372036854775807) :
    Calls Tryz.prog 48 #[.string s, .string ⟨#[c]⟩] w fun e w' => e = .returned (.string ⟨(Lib.trimB s.data.toList c).toArray⟩) ∧ (w' = w ∨ w' = w.drew) := Any.strings_Trim_one Tryz.lays160 s c hc w hs
def Tryz.lays119_ren : Go.Shelf.Ren := ⟨fun | 119 => 120 | n => n, fun | 21 => 21 | 4 => 4 | n => n, fun | n => n⟩
theorem Tryz.lays119 : Go.Proofs.Lays.n119 Tryz.prog Tryz.lays119_ren := {
  mixed := by kernel_rfl
  f119 := Tryz.func120.trans (congrArg some (by kernel_rfl))
  t4 := Tryz.underlying4
  a4 := Tryz.isAgg4
  z4 := Tryz.sizeOf4
  v4 := Tryz.zeroValue4
  t21 := Tryz.underlying21
  a21 := Tryz.isAgg21
  z21 := Tryz.sizeOf21
  v21 := Tryz.zeroValue21 }
/-- utf8.ValidRune: "ValidRune reports whether r can be legally encoded as UTF-8. Code points that are out of range or a surrogate half are illegal.": IT RETURNS 'Lib.validRune r'; the world is as it was. (LAID: no walk: one application.) -/
theorem Tryz.utf8_ValidRune (r : Int) (w : World) :
    Calls Tryz.prog 120 #[.int .i32 r] w fun e w' => e = .returned (.bool (Lib.validRune r)) ∧ w' = w := Any.utf8_ValidRune Tryz.lays119 r w
def Tryz.lays120_ren : Go.Shelf.Ren := ⟨fun | 120 => 102 | n => n, fun | 5 => 5 | 4 => 4 | n => n, fun | n => n⟩
theorem Tryz.lays120 : Go.Proofs.Lays.n120 Tryz.prog Tryz.lays120_ren := {
  mixed := by kernel_rfl
  f120 := Tryz.func102.trans (congrArg some (by kernel_rfl))
  t4 := Tryz.underlying4
  a4 := Tryz.isAgg4
  z4 := Tryz.sizeOf4
  v4 := Tryz.zeroValue4
  t5 := Tryz.underlying5
  a5 := Tryz.isAgg5
  z5 := Tryz.sizeOf5
  v5 := Tryz.zeroValue5 }
/-- utf8.RuneStart: "RuneStart reports whether the byte could be the first byte of an encoded, possibly invalid rune. Second and subsequent bytes always have the top two bits set to 10.": IT RETURNS 'Lib.runeStart b'; the world is as it was. ('h0', 'h1': b is a byte: a caller has it of every byte that it was handed.) (LAID: no walk: one application.) -/
theorem Tryz.utf8_RuneStart (b : Int) (w : World) (h0 : 0 ≤ b) (h1 : b < 256) :
    Calls Tryz.prog 102 #[.int .u8 b] w fun e w' => e = .returned (.bool (Lib.runeStart b)) ∧ w' = w := Any.utf8_RuneStart Tryz.lays120 b w h0 h1
def Tryz.lays134_ren : Go.Shelf.Ren := ⟨fun | 134 => 122 | 129 => 83 | n => n, fun | 53 => 71 | 3 => 3 | 4 => 4 | 46 => 154 | 5 => 5 | 9 => 9 | n => n, fun | n => n⟩
theorem Tryz.lays134 : Go.Proofs.Lays.n134 Tryz.prog Tryz.lays134_ren := {
  mixed := by kernel_rfl
  f129 := Tryz.func83.trans (congrArg some (by kernel_rfl))
  f134 := Tryz.func122.trans (congrArg some (by kernel_rfl))
  t3 := Tryz.underlying3
  a3 := Tryz.isAgg3
  z3 := Tryz.sizeOf3
  v3 := Tryz.zeroValue3
  t4 := Tryz.underlying4
  a4 := Tryz.isAgg4
  z4 := Tryz.sizeOf4
  v4 := Tryz.zeroValue4
  t5 := Tryz.underlying5
  a5 := Tryz.isAgg5
  z5 := Tryz.sizeOf5
  v5 := Tryz.zeroValue5
  t9 := Tryz.underlying9
  a9 := Tryz.isAgg9
  z9 := Tryz.sizeOf9
  v9 := Tryz.zeroValue9
  t46 := Tryz.underlying154
  a46 := Tryz.isAgg154
  z46 := Tryz.sizeOf154
  v46 := Tryz.zeroValue154
  t53 := Tryz.underlying71
  a53 := Tryz.isAgg71
  z53 := Tryz.sizeOf71
  v53 := Tryz.zeroValue71 }
/-- bits.LeadingZeros64: "LeadingZeros64 returns the number of leading zero bits in x; the result is 64 for x == 0.": IT RETURNS '64 - Lib.bitLen x'; the world is as it was. ITS CALLEE bits.Len64 IS MET BY ITS OWN CONTRACT OFF THE SHELF (lay that first): entered in place it sends the kernel out of memory. (LAID: no walk: one application.) -/
theorem Tryz.bits_LeadingZeros64 (x : Int) (w : World) (h0 : 0 ≤ x) (h1 : x ≤ 18446744073709551615) :
    Calls Tryz.prog 122 #[.int .u64 x] w fun e w' => e = .returned (.int .i64 (64 - (Lib.bitLen x.toNat : Int))) ∧ w' = w := Any.bits_LeadingZeros64 Tryz.lays134 x w h0 h1
def Tryz.lays137_ren : Go.Shelf.Ren := ⟨fun | 137 => 119 | 217 => 88 | 266 => 105 | n => n, fun | 9 => 9 | 5 => 5 | 3 => 3 | n => n, fun | n => n⟩
theorem Tryz.lays137 : Go.Proofs.Lays.n137 Tryz.prog Tryz.lays137_ren := {
  mixed := by kernel_rfl
  f137 := Tryz.func119.trans (congrArg some (by kernel_rfl))
  f217 := Tryz.func88.trans (congrArg some (by kernel_rfl))
  f266 := Tryz.func105.trans (congrArg some (by kernel_rfl))
  t3 := Tryz.underlying3
  a3 := Tryz.isAgg3
  z3 := Tryz.sizeOf3
  v3 := Tryz.zeroValue3
  t5 := Tryz.underlying5
  a5 := Tryz.isAgg5
  z5 := Tryz.sizeOf5
  v5 := Tryz.zeroValue5
  t9 := Tryz.underlying9
  a9 := Tryz.isAgg9
  z9 := Tryz.sizeOf9
  v9 := Tryz.zeroValue9 }
open Go.RowKit in
/-- strings.IndexByte: "IndexByte returns the index of the first instance of c in s, or -1 if c is not present in s.": IT RETURNS 'Lib.indexByte s c'; the world is as it was. (LAID: no walk: one application.) -/
theorem Tryz.strings_IndexByte (s : ByteArray) (c : Int) (w : World) :
    Calls Tryz.prog 119 #[.string s, .int .u8 c] w fun e w' => e = .returned (.int .i64 (Lib.indexByte s.data.toList c.toNat.toUInt8)) ∧ w' = w := Any.strings_IndexByte Tryz.lays137 s c w
def Tryz.lays210_ren : Go.Shelf.Ren := ⟨fun | 210 => 92 | 206 => 107 | n => n, fun | 9 => 9 | 4 => 4 | 3 => 3 | n => n, fun | n => n⟩
theorem Tryz.lays210 : Go.Proofs.Lays.n210 Tryz.prog Tryz.lays210_ren := {
  mixed := by kernel_rfl
  f206 := Tryz.func107.trans (congrArg some (by kernel_rfl))
  f210 := Tryz.func92.trans (congrArg some (by kernel_rfl))
  t3 := Tryz.underlying3
  a3 := Tryz.isAgg3
  z3 := Tryz.sizeOf3
  v3 := Tryz.zeroValue3
  t4 := Tryz.underlying4
  a4 := Tryz.isAgg4
  z4 := Tryz.sizeOf4
  v4 := Tryz.zeroValue4
  t9 := Tryz.underlying9
  a9 := Tryz.isAgg9
  z9 := Tryz.sizeOf9
  v9 := Tryz.zeroValue9 }
open Go.RowKit in
/-- internal/stringslite.CutPrefix (what strings.CutPrefix calls). (LAID: no walk: one application.) -/
theorem Tryz.stringslite_CutPrefix (s p : ByteArray) (w : World) :
    Calls Tryz.prog 92 #[.string s, .string p] w fun e w' => e = .returned (.tuple #[.string ⟨(Lib.trimPrefix s.data.toList p.data.toList).toArray⟩, .bool (Lib.hasPrefix s.data.toList p.data.toList)]) ∧ w' = w := Any.stringslite_CutPrefix Tryz.lays210 s p w
def Tryz.lays103_ren : Go.Shelf.Ren := ⟨fun | 103 => 73 | 210 => 92 | 206 => 107 | n => n, fun | 9 => 9 | 4 => 4 | 24 => 34 | 3 => 3 | n => n, fun | n => n⟩
theorem Tryz.lays103 : Go.Proofs.Lays.n103 Tryz.prog Tryz.lays103_ren := {
  mixed := by kernel_rfl
  f103 := Tryz.func73.trans (congrArg some (by kernel_rfl))
  f206 := Tryz.func107.trans (congrArg some (by kernel_rfl))
  f210 := Tryz.func92.trans (congrArg some (by kernel_rfl))
  t3 := Tryz.underlying3
  a3 := Tryz.isAgg3
  z3 := Tryz.sizeOf3
  v3 := Tryz.zeroValue3
  t4 := Tryz.underlying4
  a4 := Tryz.isAgg4
  z4 := Tryz.sizeOf4
  v4 := Tryz.zeroValue4
  t9 := Tryz.underlying9
  a9 := Tryz.isAgg9
  z9 := Tryz.sizeOf9
  v9 := Tryz.zeroValue9
  t24 := Tryz.underlying34
  a24 := Tryz.isAgg34
  z24 := Tryz.sizeOf34
  v24 := Tryz.zeroValue34 }
open Go.RowKit in
/-- strings.CutPrefix: "CutPrefix returns s without the provided leading prefix string and reports whether it found the prefix. If s doesn't start with prefix, CutPrefix returns s, false. If prefix is the empty string, CutPrefix returns s, true.": IT RETURNS '(Lib.trimPrefix s p, Lib.hasPrefix s p)'; the world is as it was. (LAID: no walk: one application.) -/
theorem Tryz.strings_CutPrefix (s p : ByteArray) (w : World) :
    Calls Tryz.prog 73 #[.string s, .string p] w fun e w' => e = .returned (.tuple #[.string ⟨(Lib.trimPrefix s.data.toList p.data.toList).toArray⟩, .bool (Lib.hasPrefix s.data.toList p.data.toList)]) ∧ w' = w := Any.strings_CutPrefix Tryz.lays103 s p w
open Go.RowKit in
/-- (*strings.Builder).Len: "Len returns the number of accumulated bytes; b.Len() == len(b.String()).": the world is as it was. (THE FORM '_f': 'Lib.IsBuilderF'.) (LAID: no walk: one application.) -/
theorem Tryz.Builder_Len_f (B b : Nat) (bs : List Value) (w : World) (h : Lib.IsBuilderF 188 5 B b bs w) :
    Calls Tryz.prog 117 #[.pointer (some ⟨b, 0, none⟩)] w fun e w' => e = .returned (.int .i64 bs.length) ∧ w' = w := Any.Builder_Len_f Tryz.lays170 B b bs w h
open Go.RowKit in
/-- (*strings.Builder).String: "String returns the accumulated string.": OF A BUILDER THAT HOLDS AT LEAST ONE BYTE. ✋ THE MODEL FREEZES THOSE BYTES IN THE BUFFER (unsafe.String): a later write INTO them ends the model's run without an answer; a later append BEHIND them goes on. The statement's order of evaluation is drawn: one draw. THE FORM '_f': IT SAYS BESIDES THAT THE BUILDER IS A BUILDER STILL ('Lib.IsBuilderF', the same bytes): SO IT CAN BE WRITTEN ON: 'b.WriteString(b.String()[:k])'. (LAID: no walk: one application.) -/
theorem Tryz.Builder_String_f (B b : Nat) (l : List UInt8) (w : World) (h : Lib.IsBuilderF 188 5 B b (Lib.byteCells l) w) (h0 : l ≠ []) :
    Calls Tryz.prog 118 #[.pointer (some ⟨b, 0, none⟩)] w fun e w' => e = .returned (.string ⟨l.toArray⟩) ∧ (Lib.IsBuilderF 188 5 B b (Lib.byteCells l) w' ∧ Below B w w') := Any.Builder_String_f Tryz.lays169 Tryz.Builder_Extra_169 B b l w h h0
open Go.RowKit in
/-- (*strings.Builder).String OF A BUILDER THAT HOLDS NO BYTE: the empty string; THE FORM '_f': a builder still. (LAID: no walk: one application.) -/
theorem Tryz.Builder_String_empty_f (B b : Nat) (w : World) (h : Lib.IsBuilderF 188 5 B b [] w) (hBw : B ≤ w.heap.size) :
    Calls Tryz.prog 118 #[.pointer (some ⟨b, 0, none⟩)] w fun e w' => e = .returned (.string ⟨#[]⟩) ∧ (Lib.IsBuilderF 188 5 B b [] w' ∧ Below B w w') := Any.Builder_String_empty_f Tryz.lays169 Tryz.Builder_Extra_169 B b w h hBw
open Go.RowKit in
/-- (*strings.Builder).String: "String returns the accumulated string.": WHATEVER THE BUILDER HOLDS; THE FORM '_f': OF A BUILDER THAT MAY HAVE BEEN READ BEFORE; AND IT IS A BUILDER STILL, holding the same bytes: it can be written on. (LAID: no walk: one application.) -/
theorem Tryz.Builder_String_any_f (B b : Nat) (l : List UInt8) (w : World) (h : Lib.IsBuilderF 188 5 B b (Lib.byteCells l) w) (hBw : B ≤ w.heap.size) :
    Calls Tryz.prog 118 #[.pointer (some ⟨b, 0, none⟩)] w fun e w' => e = .returned (.string ⟨l.toArray⟩) ∧ (Lib.IsBuilderF 188 5 B b (Lib.byteCells l) w' ∧ Below B w w') := Any.Builder_String_any_f Tryz.lays169 Tryz.Builder_Extra_169 B b l w h hBw
open Go.RowKit in
/-- (*strings.Builder).String: "String returns the accumulated string.": OF A BUILDER THAT HOLDS AT LEAST ONE BYTE. ✋ THE MODEL FREEZES THOSE BYTES IN THE BUFFER (unsafe.String): a later write INTO them ends the model's run without an answer; a later append BEHIND them goes on. The statement's order of evaluation is drawn: one draw. THE FORM '_k': OVER 'Lib.IsBuilderF' (a builder that 'String()' may have read), AND WITH THE FRAME THAT REACHES ABOVE THE BUILDER: 'Lib.OthersKept': every block that is not b and is no row of uint8's stands as it stood: the iterator of a range among them. (LAID: no walk: one application.) -/
theorem Tryz.Builder_String_k (B b : Nat) (l : List UInt8) (w : World) (h : Lib.IsBuilderF 188 5 B b (Lib.byteCells l) w) (h0 : l ≠ []) :
    Calls Tryz.prog 118 #[.pointer (some ⟨b, 0, none⟩)] w fun e w' => e = .returned (.string ⟨l.toArray⟩) ∧ (Lib.IsBuilderF 188 5 B b (Lib.byteCells l) w' ∧ Below B w w' ∧ Lib.OthersKept 5 (some b) w w') := Any.Builder_String_k Tryz.lays169 Tryz.Builder_Extra_169 B b l w h h0
open Go.RowKit in
/-- (*strings.Builder).String OF A BUILDER THAT HOLDS NO BYTE: the empty string; THE FORM '_k': OVER 'Lib.IsBuilderF' (a builder that 'String()' may have read), AND WITH THE FRAME THAT REACHES ABOVE THE BUILDER: 'Lib.OthersKept': every block that is not b and is no row of uint8's stands as it stood: the iterator of a range among them. (LAID: no walk: one application.) -/
theorem Tryz.Builder_String_empty_k (B b : Nat) (w : World) (h : Lib.IsBuilderF 188 5 B b [] w) (hBw : B ≤ w.heap.size) :
    Calls Tryz.prog 118 #[.pointer (some ⟨b, 0, none⟩)] w fun e w' => e = .returned (.string ⟨#[]⟩) ∧ (Lib.IsBuilderF 188 5 B b [] w' ∧ Below B w w' ∧ Lib.OthersKept 5 (some b) w w') := Any.Builder_String_empty_k Tryz.lays169 Tryz.Builder_Extra_169 B b w h hBw
open Go.RowKit in
/-- (*strings.Builder).String: "String returns the accumulated string.": WHATEVER THE BUILDER HOLDS; THE FORM '_k': OVER 'Lib.IsBuilderF' (a builder that 'String()' may have read), AND WITH THE FRAME THAT REACHES ABOVE THE BUILDER: 'Lib.OthersKept': every block that is not b and is no row of uint8's stands as it stood: the iterator of a range among them. (LAID: no walk: one application.) -/
theorem Tryz.Builder_String_any_k (B b : Nat) (l : List UInt8) (w : World) (h : Lib.IsBuilderF 188 5 B b (Lib.byteCells l) w) (hBw : B ≤ w.heap.size) :
    Calls Tryz.prog 118 #[.pointer (some ⟨b, 0, none⟩)] w fun e w' => e = .returned (.string ⟨l.toArray⟩) ∧ (Lib.IsBuilderF 188 5 B b (Lib.byteCells l) w' ∧ Below B w w' ∧ Lib.OthersKept 5 (some b) w w') := Any.Builder_String_any_k Tryz.lays169 Tryz.Builder_Extra_169 B b l w h hBw
def Tryz.lays129_ren : Go.Shelf.Ren := ⟨fun | 129 => 83 | n => n, fun | 53 => 71 | 3 => 3 | 4 => 4 | 46 => 154 | 5 => 5 | 9 => 9 | n => n, fun | n => n⟩
theorem Tryz.lays129 : Go.Proofs.Lays.n129 Tryz.prog Tryz.lays129_ren := {
  mixed := by kernel_rfl
  f129 := Tryz.func83.trans (congrArg some (by kernel_rfl))
  t3 := Tryz.underlying3
  a3 := Tryz.isAgg3
  z3 := Tryz.sizeOf3
  v3 := Tryz.zeroValue3
  t4 := Tryz.underlying4
  a4 := Tryz.isAgg4
  z4 := Tryz.sizeOf4
  v4 := Tryz.zeroValue4
  t5 := Tryz.underlying5
  a5 := Tryz.isAgg5
  z5 := Tryz.sizeOf5
  v5 := Tryz.zeroValue5
  t9 := Tryz.underlying9
  a9 := Tryz.isAgg9
  z9 := Tryz.sizeOf9
  v9 := Tryz.zeroValue9
  t46 := Tryz.underlying154
  a46 := Tryz.isAgg154
  z46 := Tryz.sizeOf154
  v46 := Tryz.zeroValue154
  t53 := Tryz.underlying71
  a53 := Tryz.isAgg71
  z53 := Tryz.sizeOf71
  v53 := Tryz.zeroValue71 }
/-- bits.Len64: "Len64 returns the minimum number of bits required to represent x; the result is 0 for x == 0.": IT RETURNS 'Lib.bitLen x'; the world is as it was. ('h0', 'h1': x is a uint64.) (LAID: no walk: one application.) -/
theorem Tryz.bits_Len64 (x : Int) (w : World) (h0 : 0 ≤ x) (h1 : x ≤ 18446744073709551615) :
    Calls Tryz.prog 83 #[.int .u64 x] w fun e w' => e = .returned (.int .i64 (Lib.bitLen x.toNat)) ∧ w' = w := Any.bits_Len64 Tryz.lays129 x w h0 h1
def Tryz.lays317_ren : Go.Shelf.Ren := ⟨fun | 317 => 82 | n => n, fun | 3 => 3 | 46 => 154 | n => n, fun | n => n⟩
theorem Tryz.lays317 : Go.Proofs.Lays.n317 Tryz.prog Tryz.lays317_ren := {
  mixed := by kernel_rfl
  f317 := Tryz.func82.trans (congrArg some (by kernel_rfl))
  t3 := Tryz.underlying3
  a3 := Tryz.isAgg3
  z3 := Tryz.sizeOf3
  v3 := Tryz.zeroValue3
  t46 := Tryz.underlying154
  a46 := Tryz.isAgg154
  z46 := Tryz.sizeOf154
  v46 := Tryz.zeroValue154 }
open Go.Lib in
/-- internal/strconv.log10Pow2: "log10Pow2(x) returns ⌊log₁₀ 2**x⌋ = ⌊x * log₁₀ 2⌋.": '(x * 78913) >> 18', at an x up to 64 (a length in bits). The world is as it was. (LAID: no walk: one application.) -/
theorem Tryz.internal_strconv_log10Pow2 (x : Nat) (h : x ≤ 64) (w : World) :
    Calls Tryz.prog 82 #[.int .i64 x] w fun e w' => e = .returned (.int .i64 (Lib.l10 x)) ∧ w' = w := Any.internal_strconv_log10Pow2 Tryz.lays317 x h w
def Tryz.lays318_ren : Go.Shelf.Ren := ⟨fun | 318 => 84 | n => n, fun | 3 => 3 | 4 => 4 | n => n, fun | n => n⟩
theorem Tryz.lays318 : Go.Proofs.Lays.n318 Tryz.prog Tryz.lays318_ren := {
  mixed := by kernel_rfl
  f318 := Tryz.func84.trans (congrArg some (by kernel_rfl))
  t3 := Tryz.underlying3
  a3 := Tryz.isAgg3
  z3 := Tryz.sizeOf3
  v3 := Tryz.zeroValue3
  t4 := Tryz.underlying4
  a4 := Tryz.isAgg4
  z4 := Tryz.sizeOf4
  v4 := Tryz.zeroValue4 }
open Go.Lib in
/-- internal/strconv.bool2: "bool2 converts b to an integer: 1 for true, 0 for false." The world is as it was. (LAID: no walk: one application.) -/
theorem Tryz.internal_strconv_bool2_int (b : Bool) (w : World) :
    Calls Tryz.prog 84 #[.bool b] w fun e w' => e = .returned (.int .i64 (if b then 1 else 0)) ∧ w' = w := Any.internal_strconv_bool2_int Tryz.lays318 b w
def Tryz.lays283_ren : Go.Shelf.Ren := ⟨fun | 283 => 65 | n => n, fun | 3 => 3 | 9 => 9 | 4 => 4 | n => n, fun | n => n⟩
theorem Tryz.lays283 : Go.Proofs.Lays.n283 Tryz.prog Tryz.lays283_ren := {
  mixed := by kernel_rfl
  f283 := Tryz.func65.trans (congrArg some (by kernel_rfl))
  t3 := Tryz.underlying3
  a3 := Tryz.isAgg3
  z3 := Tryz.sizeOf3
  v3 := Tryz.zeroValue3
  t4 := Tryz.underlying4
  a4 := Tryz.isAgg4
  z4 := Tryz.sizeOf4
  v4 := Tryz.zeroValue4
  t9 := Tryz.underlying9
  a9 := Tryz.isAgg9
  z9 := Tryz.sizeOf9
  v9 := Tryz.zeroValue9 }
open Go.Lib in
/-- internal/strconv.small: "small returns the string for an i with 0 <= i < nSmalls.": i's decimal numeral. The world is as it was. (LAID: no walk: one application.) -/
theorem Tryz.internal_strconv_small (i : Nat) (h : i < 100) (w : World) :
    Calls Tryz.prog 65 #[.int .i64 i] w fun e w' => e = .returned (.string ⟨(Lib.decDigits i).toArray⟩) ∧ w' = w := Any.internal_strconv_small Tryz.lays283 i h w
def Tryz.laysM284_ren : Go.Shelf.Ren := ⟨fun | 284 => 66 | 129 => 83 | 317 => 82 | 318 => 84 | n => n, fun | 53 => 71 | 3 => 3 | 212 => 159 | 0 => 0 | 4 => 4 | 46 => 154 | 5 => 5 | 9 => 9 | n => n, fun | 17 => 1 | n => n⟩
theorem Tryz.laysM284 : Go.Proofs.LaysM.n284 Tryz.prog Tryz.laysM284_ren := {
  mixed := by kernel_rfl
  f129 := Tryz.func83.trans (congrArg some (by kernel_rfl))
  f284 := Tryz.func66.trans (congrArg some (by kernel_rfl))
  f317 := Tryz.func82.trans (congrArg some (by kernel_rfl))
  f318 := Tryz.func84.trans (congrArg some (by kernel_rfl))
  t0 := Tryz.underlying0
  a0 := Tryz.isAgg0
  z0 := Tryz.sizeOf0
  v0 := Tryz.zeroValue0
  t3 := Tryz.underlying3
  a3 := Tryz.isAgg3
  z3 := Tryz.sizeOf3
  v3 := Tryz.zeroValue3
  t4 := Tryz.underlying4
  a4 := Tryz.isAgg4
  z4 := Tryz.sizeOf4
  v4 := Tryz.zeroValue4
  t5 := Tryz.underlying5
  a5 := Tryz.isAgg5
  z5 := Tryz.sizeOf5
  v5 := Tryz.zeroValue5
  t9 := Tryz.underlying9
  a9 := Tryz.isAgg9
  z9 := Tryz.sizeOf9
  v9 := Tryz.zeroValue9
  t46 := Tryz.underlying154
  a46 := Tryz.isAgg154
  z46 := Tryz.sizeOf154
  v46 := Tryz.zeroValue154
  t53 := Tryz.underlying71
  a53 := Tryz.isAgg71
  z53 := Tryz.sizeOf71
  v53 := Tryz.zeroValue71
  t212 := Tryz.underlying159
  a212 := Tryz.isAgg159
  z212 := Tryz.sizeOf159
  v212 := Tryz.zeroValue159
  g17 := by kernel_rfl
  i0 := by kernel_rfl
  i3 := by kernel_rfl
  i4 := by kernel_rfl
  i5 := by kernel_rfl
  i9 := by kernel_rfl
  i46 := by kernel_rfl
  i53 := by kernel_rfl
  i212 := by kernel_rfl
  m17 := by kernel_rfl }
open Go.Lib in
/-- internal/strconv.numDigits, at a d that is not 0: THE NUMBER OF d's DECIMAL DIGITS. The world is as it was. (LAID: no walk: one application.) -/
theorem Tryz.internal_strconv_numDigits (u : Nat) (h1 : 1 ≤ u) (h2 : u < 18446744073709551616) (w : World) (htab : Lib.TabIs Tryz.prog w "internal/strconv.uint64pow10" .u64 Lib.pow10Tab) :
    Calls Tryz.prog 66 #[.int .u64 u] w fun e w' => e = .returned (.int .i64 (Lib.nDigits u)) ∧ w' = w := Any.internal_strconv_numDigits Tryz.laysM284 u h1 h2 w htab
def Tryz.lays285_ren : Go.Shelf.Ren := ⟨fun | 285 => 67 | n => n, fun | 37 => 53 | 53 => 71 | 3 => 3 | 4 => 4 | 51 => 151 | 9 => 9 | 5 => 5 | 0 => 0 | n => n, fun | n => n⟩
theorem Tryz.lays285 : Go.Proofs.Lays.n285 Tryz.prog Tryz.lays285_ren := {
  mixed := by kernel_rfl
  f285 := Tryz.func67.trans (congrArg some (by kernel_rfl))
  t0 := Tryz.underlying0
  a0 := Tryz.isAgg0
  z0 := Tryz.sizeOf0
  v0 := Tryz.zeroValue0
  t3 := Tryz.underlying3
  a3 := Tryz.isAgg3
  z3 := Tryz.sizeOf3
  v3 := Tryz.zeroValue3
  t4 := Tryz.underlying4
  a4 := Tryz.isAgg4
  z4 := Tryz.sizeOf4
  v4 := Tryz.zeroValue4
  t5 := Tryz.underlying5
  a5 := Tryz.isAgg5
  z5 := Tryz.sizeOf5
  v5 := Tryz.zeroValue5
  t9 := Tryz.underlying9
  a9 := Tryz.isAgg9
  z9 := Tryz.sizeOf9
  v9 := Tryz.zeroValue9
  t37 := Tryz.underlying53
  a37 := Tryz.isAgg53
  z37 := Tryz.sizeOf53
  v37 := Tryz.zeroValue53
  t51 := Tryz.underlying151
  a51 := Tryz.isAgg151
  z51 := Tryz.sizeOf151
  v51 := Tryz.zeroValue151
  t53 := Tryz.underlying71
  a53 := Tryz.isAgg71
  z53 := Tryz.sizeOf71
  v53 := Tryz.zeroValue71 }
open Go.RowKit Go.Sort Go.Lib in
/-- internal/strconv.formatBase10: "formatBase10 formats the decimal representation of u into a. The caller is responsible for ensuring that a is big enough to hold u. If a is too big, leading zeros will be filled in as needed.": THE ROW HOLDS u's DIGITS ('FmtInv .. 0 ..': every place t holds 'dg u (len - 1 - t)'); all else is as it was but for the count of draws. (LAID: no walk: one application.) -/
theorem Tryz.internal_strconv_formatBase10 (blk off cap : Nat) (u : Nat) (d : Array UInt8) (w : World) (hH : Holds (fun (b : UInt8) => Value.int .u8 (b.toNat : Int)) w blk off d) (hu : u < 10 ^ d.size) (hu64 : u < 18446744073709551616) (hsz : d.size < 4611686018427387904) :
    Calls Tryz.prog 67 #[.slice (some ⟨blk, off, none⟩) d.size cap, .int .u64 u] w fun e w' =>
      e = .returned (.tuple #[]) ∧ ∃ (n v' : Nat) (dk : Array UInt8), w' = (putRow (fun (b : UInt8) => Value.int .u8 (b.toNat : Int)) w blk off dk).drewN n ∧ FmtInv d.size u 0 v' dk := Any.internal_strconv_formatBase10 Tryz.lays285 blk off cap u d w hH hu hu64 hsz
def Tryz.laysM246_ren : Go.Shelf.Ren := ⟨fun | 246 => 51 | 283 => 65 | 284 => 66 | 285 => 67 | 286 => 68 | 129 => 83 | 317 => 82 | 318 => 84 | 319 => 85 | 320 => 86 | 337 => 103 | 338 => 104 | n => n, fun | 2 => 2 | 3 => 3 | 9 => 9 | 4 => 4 | 171 => 138 | 0 => 0 | 53 => 71 | 37 => 53 | 5 => 5 | 173 => 141 | 212 => 159 | 51 => 151 | 20 => 20 | 213 => 160 | 46 => 154 | 232 => 194 | 233 => 195 | n => n, fun | 17 => 1 | 18 => 5 | 19 => 6 | n => n⟩
theorem Tryz.laysM246 : Go.Proofs.LaysM.n246 Tryz.prog Tryz.laysM246_ren := {
  mixed := by kernel_rfl
  f129 := Tryz.func83.trans (congrArg some (by kernel_rfl))
  f246 := Tryz.func51.trans (congrArg some (by kernel_rfl))
  f283 := Tryz.func65.trans (congrArg some (by kernel_rfl))
  f284 := Tryz.func66.trans (congrArg some (by kernel_rfl))
  f285 := Tryz.func67.trans (congrArg some (by kernel_rfl))
  f286 := Tryz.func68.trans (congrArg some (by kernel_rfl))
  f317 := Tryz.func82.trans (congrArg some (by kernel_rfl))
  f318 := Tryz.func84.trans (congrArg some (by kernel_rfl))
  f319 := Tryz.func85.trans (congrArg some (by kernel_rfl))
  f320 := Tryz.func86.trans (congrArg some (by kernel_rfl))
  f337 := Tryz.func103.trans (congrArg some (by kernel_rfl))
  f338 := Tryz.func104.trans (congrArg some (by kernel_rfl))
  t0 := Tryz.underlying0
  a0 := Tryz.isAgg0
  z0 := Tryz.sizeOf0
  v0 := Tryz.zeroValue0
  t2 := Tryz.underlying2
  a2 := Tryz.isAgg2
  z2 := Tryz.sizeOf2
  v2 := Tryz.zeroValue2
  t3 := Tryz.underlying3
  a3 := Tryz.isAgg3
  z3 := Tryz.sizeOf3
  v3 := Tryz.zeroValue3
  t4 := Tryz.underlying4
  a4 := Tryz.isAgg4
  z4 := Tryz.sizeOf4
  v4 := Tryz.zeroValue4
  t5 := Tryz.underlying5
  a5 := Tryz.isAgg5
  z5 := Tryz.sizeOf5
  v5 := Tryz.zeroValue5
  t9 := Tryz.underlying9
  a9 := Tryz.isAgg9
  z9 := Tryz.sizeOf9
  v9 := Tryz.zeroValue9
  t20 := Tryz.underlying20
  a20 := Tryz.isAgg20
  z20 := Tryz.sizeOf20
  v20 := Tryz.zeroValue20
  t37 := Tryz.underlying53
  a37 := Tryz.isAgg53
  z37 := Tryz.sizeOf53
  v37 := Tryz.zeroValue53
  t46 := Tryz.underlying154
  a46 := Tryz.isAgg154
  z46 := Tryz.sizeOf154
  v46 := Tryz.zeroValue154
  t51 := Tryz.underlying151
  a51 := Tryz.isAgg151
  z51 := Tryz.sizeOf151
  v51 := Tryz.zeroValue151
  t53 := Tryz.underlying71
  a53 := Tryz.isAgg71
  z53 := Tryz.sizeOf71
  v53 := Tryz.zeroValue71
  t171 := Tryz.underlying138
  a171 := Tryz.isAgg138
  z171 := Tryz.sizeOf138
  v171 := Tryz.zeroValue138
  t173 := Tryz.underlying141
  a173 := Tryz.isAgg141
  z173 := Tryz.sizeOf141
  v173 := Tryz.zeroValue141
  t212 := Tryz.underlying159
  a212 := Tryz.isAgg159
  z212 := Tryz.sizeOf159
  v212 := Tryz.zeroValue159
  t213 := Tryz.underlying160
  a213 := Tryz.isAgg160
  z213 := Tryz.sizeOf160
  t232 := Tryz.underlying194
  a232 := Tryz.isAgg194
  z232 := Tryz.sizeOf194
  v232 := Tryz.zeroValue194
  t233 := Tryz.underlying195
  a233 := Tryz.isAgg195
  z233 := Tryz.sizeOf195
  v233 := Tryz.zeroValue195
  g17 := by kernel_rfl
  g18 := by kernel_rfl
  g19 := by kernel_rfl
  i0 := by kernel_rfl
  i2 := by kernel_rfl
  i3 := by kernel_rfl
  i4 := by kernel_rfl
  i5 := by kernel_rfl
  i9 := by kernel_rfl
  i20 := by kernel_rfl
  i37 := by kernel_rfl
  i46 := by kernel_rfl
  i51 := by kernel_rfl
  i53 := by kernel_rfl
  i171 := by kernel_rfl
  i173 := by kernel_rfl
  i212 := by kernel_rfl
  i232 := by kernel_rfl
  i233 := by kernel_rfl
  m17 := by kernel_rfl
  m18 := by kernel_rfl
  m19 := by kernel_rfl }
open Go.RowKit Go.Sort Go.Lib in
/-- internal/strconv.FormatInt: "FormatInt returns the string representation of i in the given base": AT BASE 10: i's decimal numeral, for every int64. The world behind the call: the world before it, new blocks behind the heap, draws. (LAID: no walk: one application.) -/
theorem Tryz.internal_strconv_FormatInt_10 (n : Int) (h0 : -9223372036854775808 ≤ n) (h1 : n ≤ 9223372036854775807) (w : World) (htab : Lib.TabIs Tryz.prog w "internal/strconv.uint64pow10" .u64 Lib.pow10Tab) :
    Calls Tryz.prog 51 #[.int .i64 n, .int .i64 10] w fun e w' => e = .returned (.string ⟨(Lib.itoa n).toArray⟩) ∧ ∃ k os, w' = grow (w.drewN k) os := Any.internal_strconv_FormatInt_10 Tryz.laysM246 n h0 h1 w htab
def Tryz.lays246_ren : Go.Shelf.Ren := ⟨fun | 246 => 51 | 283 => 65 | 284 => 66 | 285 => 67 | 286 => 68 | 129 => 83 | 317 => 82 | 318 => 84 | 319 => 85 | 320 => 86 | 337 => 103 | 338 => 104 | n => n, fun | 2 => 2 | 3 => 3 | 9 => 9 | 4 => 4 | 171 => 138 | 0 => 0 | 53 => 71 | 37 => 53 | 5 => 5 | 173 => 141 | 212 => 159 | 51 => 151 | 20 => 20 | 213 => 160 | 46 => 154 | 232 => 194 | 233 => 195 | n => n, fun | 17 => 1 | 18 => 5 | 19 => 6 | n => n⟩
theorem Tryz.lays246 : Go.Proofs.Lays.n246 Tryz.prog Tryz.lays246_ren := {
  mixed := by kernel_rfl
  f129 := Tryz.func83.trans (congrArg some (by kernel_rfl))
  f246 := Tryz.func51.trans (congrArg some (by kernel_rfl))
  f283 := Tryz.func65.trans (congrArg some (by kernel_rfl))
  f284 := Tryz.func66.trans (congrArg some (by kernel_rfl))
  f285 := Tryz.func67.trans (congrArg some (by kernel_rfl))
  f286 := Tryz.func68.trans (congrArg some (by kernel_rfl))
  f317 := Tryz.func82.trans (congrArg some (by kernel_rfl))
  f318 := Tryz.func84.trans (congrArg some (by kernel_rfl))
  f319 := Tryz.func85.trans (congrArg some (by kernel_rfl))
  f320 := Tryz.func86.trans (congrArg some (by kernel_rfl))
  f337 := Tryz.func103.trans (congrArg some (by kernel_rfl))
  f338 := Tryz.func104.trans (congrArg some (by kernel_rfl))
  t0 := Tryz.underlying0
  a0 := Tryz.isAgg0
  z0 := Tryz.sizeOf0
  v0 := Tryz.zeroValue0
  t2 := Tryz.underlying2
  a2 := Tryz.isAgg2
  z2 := Tryz.sizeOf2
  v2 := Tryz.zeroValue2
  t3 := Tryz.underlying3
  a3 := Tryz.isAgg3
  z3 := Tryz.sizeOf3
  v3 := Tryz.zeroValue3
  t4 := Tryz.underlying4
  a4 := Tryz.isAgg4
  z4 := Tryz.sizeOf4
  v4 := Tryz.zeroValue4
  t5 := Tryz.underlying5
  a5 := Tryz.isAgg5
  z5 := Tryz.sizeOf5
  v5 := Tryz.zeroValue5
  t9 := Tryz.underlying9
  a9 := Tryz.isAgg9
  z9 := Tryz.sizeOf9
  v9 := Tryz.zeroValue9
  t20 := Tryz.underlying20
  a20 := Tryz.isAgg20
  z20 := Tryz.sizeOf20
  v20 := Tryz.zeroValue20
  t37 := Tryz.underlying53
  a37 := Tryz.isAgg53
  z37 := Tryz.sizeOf53
  v37 := Tryz.zeroValue53
  t46 := Tryz.underlying154
  a46 := Tryz.isAgg154
  z46 := Tryz.sizeOf154
  v46 := Tryz.zeroValue154
  t51 := Tryz.underlying151
  a51 := Tryz.isAgg151
  z51 := Tryz.sizeOf151
  v51 := Tryz.zeroValue151
  t53 := Tryz.underlying71
  a53 := Tryz.isAgg71
  z53 := Tryz.sizeOf71
  v53 := Tryz.zeroValue71
  t171 := Tryz.underlying138
  a171 := Tryz.isAgg138
  z171 := Tryz.sizeOf138
  v171 := Tryz.zeroValue138
  t173 := Tryz.underlying141
  a173 := Tryz.isAgg141
  z173 := Tryz.sizeOf141
  v173 := Tryz.zeroValue141
  t212 := Tryz.underlying159
  a212 := Tryz.isAgg159
  z212 := Tryz.sizeOf159
  v212 := Tryz.zeroValue159
  t213 := Tryz.underlying160
  a213 := Tryz.isAgg160
  z213 := Tryz.sizeOf160
  t232 := Tryz.underlying194
  a232 := Tryz.isAgg194
  z232 := Tryz.sizeOf194
  v232 := Tryz.zeroValue194
  t233 := Tryz.underlying195
  a233 := Tryz.isAgg195
  z233 := Tryz.sizeOf195
  v233 := Tryz.zeroValue195
  g17 := by kernel_rfl
  g18 := by kernel_rfl
  g19 := by kernel_rfl }
open Go.RowKit Go.Sort Go.Lib in
/-- THE ROAD WITHOUT THE TABLE: 0 <= i < 100: two constants are read, nothing is laid: no premise on the world, and the world is as it was. (LAID: no walk: one application.) -/
theorem Tryz.internal_strconv_FormatInt_10_small (i : Nat) (hi : i < 100) (w : World) :
    Calls Tryz.prog 51 #[.int .i64 i, .int .i64 10] w fun e w' => e = .returned (.string ⟨(Lib.decDigits i).toArray⟩) ∧ w' = w := Any.internal_strconv_FormatInt_10_small Tryz.lays246 i hi w
def Tryz.laysM173_ren : Go.Shelf.Ren := ⟨fun | 173 => 44 | 246 => 51 | 283 => 65 | 284 => 66 | 285 => 67 | 286 => 68 | 129 => 83 | 317 => 82 | 318 => 84 | 319 => 85 | 320 => 86 | 337 => 103 | 338 => 104 | n => n, fun | 2 => 2 | 3 => 3 | 9 => 9 | 4 => 4 | 171 => 138 | 0 => 0 | 53 => 71 | 37 => 53 | 5 => 5 | 173 => 141 | 212 => 159 | 51 => 151 | 20 => 20 | 213 => 160 | 46 => 154 | 232 => 194 | 233 => 195 | n => n, fun | 17 => 1 | 18 => 5 | 19 => 6 | n => n⟩
theorem Tryz.laysM173 : Go.Proofs.LaysM.n173 Tryz.prog Tryz.laysM173_ren := {
  mixed := by kernel_rfl
  f129 := Tryz.func83.trans (congrArg some (by kernel_rfl))
  f173 := Tryz.func44.trans (congrArg some (by kernel_rfl))
  f246 := Tryz.func51.trans (congrArg some (by kernel_rfl))
  f283 := Tryz.func65.trans (congrArg some (by kernel_rfl))
  f284 := Tryz.func66.trans (congrArg some (by kernel_rfl))
  f285 := Tryz.func67.trans (congrArg some (by kernel_rfl))
  f286 := Tryz.func68.trans (congrArg some (by kernel_rfl))
  f317 := Tryz.func82.trans (congrArg some (by kernel_rfl))
  f318 := Tryz.func84.trans (congrArg some (by kernel_rfl))
  f319 := Tryz.func85.trans (congrArg some (by kernel_rfl))
  f320 := Tryz.func86.trans (congrArg some (by kernel_rfl))
  f337 := Tryz.func103.trans (congrArg some (by kernel_rfl))
  f338 := Tryz.func104.trans (congrArg some (by kernel_rfl))
  t0 := Tryz.underlying0
  a0 := Tryz.isAgg0
  z0 := Tryz.sizeOf0
  v0 := Tryz.zeroValue0
  t2 := Tryz.underlying2
  a2 := Tryz.isAgg2
  z2 := Tryz.sizeOf2
  v2 := Tryz.zeroValue2
  t3 := Tryz.underlying3
  a3 := Tryz.isAgg3
  z3 := Tryz.sizeOf3
  v3 := Tryz.zeroValue3
  t4 := Tryz.underlying4
  a4 := Tryz.isAgg4
  z4 := Tryz.sizeOf4
  v4 := Tryz.zeroValue4
  t5 := Tryz.underlying5
  a5 := Tryz.isAgg5
  z5 := Tryz.sizeOf5
  v5 := Tryz.zeroValue5
  t9 := Tryz.underlying9
  a9 := Tryz.isAgg9
  z9 := Tryz.sizeOf9
  v9 := Tryz.zeroValue9
  t20 := Tryz.underlying20
  a20 := Tryz.isAgg20
  z20 := Tryz.sizeOf20
  v20 := Tryz.zeroValue20
  t37 := Tryz.underlying53
  a37 := Tryz.isAgg53
  z37 := Tryz.sizeOf53
  v37 := Tryz.zeroValue53
  t46 := Tryz.underlying154
  a46 := Tryz.isAgg154
  z46 := Tryz.sizeOf154
  v46 := Tryz.zeroValue154
  t51 := Tryz.underlying151
  a51 := Tryz.isAgg151
  z51 := Tryz.sizeOf151
  v51 := Tryz.zeroValue151
  t53 := Tryz.underlying71
  a53 := Tryz.isAgg71
  z53 := Tryz.sizeOf71
  v53 := Tryz.zeroValue71
  t171 := Tryz.underlying138
  a171 := Tryz.isAgg138
  z171 := Tryz.sizeOf138
  v171 := Tryz.zeroValue138
  t173 := Tryz.underlying141
  a173 := Tryz.isAgg141
  z173 := Tryz.sizeOf141
  v173 := Tryz.zeroValue141
  t212 := Tryz.underlying159
  a212 := Tryz.isAgg159
  z212 := Tryz.sizeOf159
  v212 := Tryz.zeroValue159
  t213 := Tryz.underlying160
  a213 := Tryz.isAgg160
  z213 := Tryz.sizeOf160
  t232 := Tryz.underlying194
  a232 := Tryz.isAgg194
  z232 := Tryz.sizeOf194
  v232 := Tryz.zeroValue194
  t233 := Tryz.underlying195
  a233 := Tryz.isAgg195
  z233 := Tryz.sizeOf195
  v233 := Tryz.zeroValue195
  g17 := by kernel_rfl
  g18 := by kernel_rfl
  g19 := by kernel_rfl
  i0 := by kernel_rfl
  i2 := by kernel_rfl
  i3 := by kernel_rfl
  i4 := by kernel_rfl
  i5 := by kernel_rfl
  i9 := by kernel_rfl
  i20 := by kernel_rfl
  i37 := by kernel_rfl
  i46 := by kernel_rfl
  i51 := by kernel_rfl
  i53 := by kernel_rfl
  i171 := by kernel_rfl
  i173 := by kernel_rfl
  i212 := by kernel_rfl
  i232 := by kernel_rfl
  i233 := by kernel_rfl
  m17 := by kernel_rfl
  m18 := by kernel_rfl
  m19 := by kernel_rfl }
open Go.RowKit Go.Sort Go.Lib in
/-- strconv.FormatInt: "FormatInt returns the string representation of i in the given base": AT BASE 10: i's decimal numeral, for every int64. (LAID: no walk: one application.) -/
theorem Tryz.strconv_FormatInt_10 (n : Int) (h0 : -9223372036854775808 ≤ n) (h1 : n ≤ 9223372036854775807) (w : World) (htab : Lib.TabIs Tryz.prog w "internal/strconv.uint64pow10" .u64 Lib.pow10Tab) :
    Calls Tryz.prog 44 #[.int .i64 n, .int .i64 10] w fun e w' => e = .returned (.string ⟨(Lib.itoa n).toArray⟩) ∧ ∃ k os, w' = grow (w.drewN k) os := Any.strconv_FormatInt_10 Tryz.laysM173 n h0 h1 w htab
def Tryz.lays173_ren : Go.Shelf.Ren := ⟨fun | 173 => 44 | 246 => 51 | 283 => 65 | 284 => 66 | 285 => 67 | 286 => 68 | 129 => 83 | 317 => 82 | 318 => 84 | 319 => 85 | 320 => 86 | 337 => 103 | 338 => 104 | n => n, fun | 2 => 2 | 3 => 3 | 9 => 9 | 4 => 4 | 171 => 138 | 0 => 0 | 53 => 71 | 37 => 53 | 5 => 5 | 173 => 141 | 212 => 159 | 51 => 151 | 20 => 20 | 213 => 160 | 46 => 154 | 232 => 194 | 233 => 195 | n => n, fun | 17 => 1 | 18 => 5 | 19 => 6 | n => n⟩
theorem Tryz.lays173 : Go.Proofs.Lays.n173 Tryz.prog Tryz.lays173_ren := {
  mixed := by kernel_rfl
  f129 := Tryz.func83.trans (congrArg some (by kernel_rfl))
  f173 := Tryz.func44.trans (congrArg some (by kernel_rfl))
  f246 := Tryz.func51.trans (congrArg some (by kernel_rfl))
  f283 := Tryz.func65.trans (congrArg some (by kernel_rfl))
  f284 := Tryz.func66.trans (congrArg some (by kernel_rfl))
  f285 := Tryz.func67.trans (congrArg some (by kernel_rfl))
  f286 := Tryz.func68.trans (congrArg some (by kernel_rfl))
  f317 := Tryz.func82.trans (congrArg some (by kernel_rfl))
  f318 := Tryz.func84.trans (congrArg some (by kernel_rfl))
  f319 := Tryz.func85.trans (congrArg some (by kernel_rfl))
  f320 := Tryz.func86.trans (congrArg some (by kernel_rfl))
  f337 := Tryz.func103.trans (congrArg some (by kernel_rfl))
  f338 := Tryz.func104.trans (congrArg some (by kernel_rfl))
  t0 := Tryz.underlying0
  a0 := Tryz.isAgg0
  z0 := Tryz.sizeOf0
  v0 := Tryz.zeroValue0
  t2 := Tryz.underlying2
  a2 := Tryz.isAgg2
  z2 := Tryz.sizeOf2
  v2 := Tryz.zeroValue2
  t3 := Tryz.underlying3
  a3 := Tryz.isAgg3
  z3 := Tryz.sizeOf3
  v3 := Tryz.zeroValue3
  t4 := Tryz.underlying4
  a4 := Tryz.isAgg4
  z4 := Tryz.sizeOf4
  v4 := Tryz.zeroValue4
  t5 := Tryz.underlying5
  a5 := Tryz.isAgg5
  z5 := Tryz.sizeOf5
  v5 := Tryz.zeroValue5
  t9 := Tryz.underlying9
  a9 := Tryz.isAgg9
  z9 := Tryz.sizeOf9
  v9 := Tryz.zeroValue9
  t20 := Tryz.underlying20
  a20 := Tryz.isAgg20
  z20 := Tryz.sizeOf20
  v20 := Tryz.zeroValue20
  t37 := Tryz.underlying53
  a37 := Tryz.isAgg53
  z37 := Tryz.sizeOf53
  v37 := Tryz.zeroValue53
  t46 := Tryz.underlying154
  a46 := Tryz.isAgg154
  z46 := Tryz.sizeOf154
  v46 := Tryz.zeroValue154
  t51 := Tryz.underlying151
  a51 := Tryz.isAgg151
  z51 := Tryz.sizeOf151
  v51 := Tryz.zeroValue151
  t53 := Tryz.underlying71
  a53 := Tryz.isAgg71
  z53 := Tryz.sizeOf71
  v53 := Tryz.zeroValue71
  t171 := Tryz.underlying138
  a171 := Tryz.isAgg138
  z171 := Tryz.sizeOf138
  v171 := Tryz.zeroValue138
  t173 := Tryz.underlying141
  a173 := Tryz.isAgg141
  z173 := Tryz.sizeOf141
  v173 := Tryz.zeroValue141
  t212 := Tryz.underlying159
  a212 := Tryz.isAgg159
  z212 := Tryz.sizeOf159
  v212 := Tryz.zeroValue159
  t213 := Tryz.underlying160
  a213 := Tryz.isAgg160
  z213 := Tryz.sizeOf160
  t232 := Tryz.underlying194
  a232 := Tryz.isAgg194
  z232 := Tryz.sizeOf194
  v232 := Tryz.zeroValue194
  t233 := Tryz.underlying195
  a233 := Tryz.isAgg195
  z233 := Tryz.sizeOf195
  v233 := Tryz.zeroValue195
  g17 := by kernel_rfl
  g18 := by kernel_rfl
  g19 := by kernel_rfl }
open Go.RowKit Go.Sort Go.Lib in
/-- THE ROAD WITHOUT THE TABLE: 0 <= i < 100. (LAID: no walk: one application.) -/
theorem Tryz.strconv_FormatInt_10_small (i : Nat) (hi : i < 100) (w : World) :
    Calls Tryz.prog 44 #[.int .i64 i, .int .i64 10] w fun e w' => e = .returned (.string ⟨(Lib.decDigits i).toArray⟩) ∧ w' = w := Any.strconv_FormatInt_10_small Tryz.lays173 i hi w
def Tryz.lays217_ren : Go.Shelf.Ren := ⟨fun | 217 => 88 | 266 => 105 | n => n, fun | 9 => 9 | 5 => 5 | 3 => 3 | n => n, fun | n => n⟩
theorem Tryz.lays217 : Go.Proofs.Lays.n217 Tryz.prog Tryz.lays217_ren := {
  mixed := by kernel_rfl
  f217 := Tryz.func88.trans (congrArg some (by kernel_rfl))
  f266 := Tryz.func105.trans (congrArg some (by kernel_rfl))
  t3 := Tryz.underlying3
  a3 := Tryz.isAgg3
  z3 := Tryz.sizeOf3
  v3 := Tryz.zeroValue3
  t5 := Tryz.underlying5
  a5 := Tryz.isAgg5
  z5 := Tryz.sizeOf5
  v5 := Tryz.zeroValue5
  t9 := Tryz.underlying9
  a9 := Tryz.isAgg9
  z9 := Tryz.sizeOf9
  v9 := Tryz.zeroValue9 }
open Go.RowKit Go.Lib in
/-- internal/stringslite.IndexByte (what strings.IndexByte calls): IT RETURNS 'Lib.indexByte s c'; the world is as it was. (LAID: no walk: one application.) -/
theorem Tryz.stringslite_IndexByte (s : ByteArray) (c : Int) (w : World) :
    Calls Tryz.prog 88 #[.string s, .int .u8 c] w fun e w' => e = .returned (.int .i64 (Lib.indexByte s.data.toList c.toNat.toUInt8)) ∧ w' = w := Any.stringslite_IndexByte Tryz.lays217 s c w
def Tryz.lays224_ren : Go.Shelf.Ren := ⟨fun | 224 => 90 | n => n, fun | 3 => 3 | n => n, fun | n => n⟩
theorem Tryz.lays224 : Go.Proofs.Lays.n224 Tryz.prog Tryz.lays224_ren := {
  mixed := by kernel_rfl
  f224 := Tryz.func90.trans (congrArg some (by kernel_rfl))
  t3 := Tryz.underlying3
  a3 := Tryz.isAgg3
  z3 := Tryz.sizeOf3
  v3 := Tryz.zeroValue3 }
open Go.RowKit Go.Lib in
/-- internal/bytealg.Cutover: "Cutover reports the number of failures of IndexByte we should tolerate before switching over to Index. n is the number of bytes processed so far.": on amd64: (n + 16) / 8. (LAID: no walk: one application.) -/
theorem Tryz.bytealg_Cutover (n : Int) (h0 : 0 ≤ n) (h1 : n < 4611686018427387904) (w : World) :
    Calls Tryz.prog 90 #[.int .i64 n] w fun e w' => e = .returned (.int .i64 ((n + 16) / 8)) ∧ w' = w := Any.bytealg_Cutover Tryz.lays224 n h0 h1 w
def Tryz.lays314_ren : Go.Shelf.Ren := ⟨fun | 314 => 106 | n => n, fun | 9 => 9 | 51 => 151 | 3 => 3 | 4 => 4 | 5 => 5 | 46 => 154 | n => n, fun | n => n⟩
theorem Tryz.lays314 : Go.Proofs.Lays.n314 Tryz.prog Tryz.lays314_ren := {
  mixed := by kernel_rfl
  f314 := Tryz.func106.trans (congrArg some (by kernel_rfl))
  t3 := Tryz.underlying3
  a3 := Tryz.isAgg3
  z3 := Tryz.sizeOf3
  v3 := Tryz.zeroValue3
  t4 := Tryz.underlying4
  a4 := Tryz.isAgg4
  z4 := Tryz.sizeOf4
  v4 := Tryz.zeroValue4
  t5 := Tryz.underlying5
  a5 := Tryz.isAgg5
  z5 := Tryz.sizeOf5
  v5 := Tryz.zeroValue5
  t9 := Tryz.underlying9
  a9 := Tryz.isAgg9
  z9 := Tryz.sizeOf9
  v9 := Tryz.zeroValue9
  t46 := Tryz.underlying154
  a46 := Tryz.isAgg154
  z46 := Tryz.sizeOf154
  v46 := Tryz.zeroValue154
  t51 := Tryz.underlying151
  a51 := Tryz.isAgg151
  z51 := Tryz.sizeOf151
  v51 := Tryz.zeroValue151 }
open Go.RowKit Go.Lib in
/-- hashStr: "returns the hash and the appropriate multiplicative factor for use in Rabin-Karp algorithm": THE HASH OF ALL OF sep, AND 16777619 ^ len(sep), both in uint32. (LAID: no walk: one application.) -/
theorem Tryz.bytealg_hashStr (sep : ByteArray) (hs : sep.size < 4294967281) (w : World) :
    Calls Tryz.prog 106 #[.string sep] w fun e w' => e = .returned (.tuple #[.int .u32 (RK.H sep.data.toList % 4294967296), .int .u32 (16777619 ^ sep.size % 4294967296)]) ∧ w' = w := Any.bytealg_hashStr Tryz.lays314 sep hs w
def Tryz.lays267_ren : Go.Shelf.Ren := ⟨fun | 267 => 91 | 314 => 106 | n => n, fun | 9 => 9 | 3 => 3 | 146 => 179 | 51 => 151 | 4 => 4 | 5 => 5 | 46 => 154 | n => n, fun | n => n⟩
theorem Tryz.lays267 : Go.Proofs.Lays.n267 Tryz.prog Tryz.lays267_ren := {
  mixed := by kernel_rfl
  f267 := Tryz.func91.trans (congrArg some (by kernel_rfl))
  f314 := Tryz.func106.trans (congrArg some (by kernel_rfl))
  t3 := Tryz.underlying3
  a3 := Tryz.isAgg3
  z3 := Tryz.sizeOf3
  v3 := Tryz.zeroValue3
  t4 := Tryz.underlying4
  a4 := Tryz.isAgg4
  z4 := Tryz.sizeOf4
  v4 := Tryz.zeroValue4
  t5 := Tryz.underlying5
  a5 := Tryz.isAgg5
  z5 := Tryz.sizeOf5
  v5 := Tryz.zeroValue5
  t9 := Tryz.underlying9
  a9 := Tryz.isAgg9
  z9 := Tryz.sizeOf9
  v9 := Tryz.zeroValue9
  t46 := Tryz.underlying154
  a46 := Tryz.isAgg154
  z46 := Tryz.sizeOf154
  v46 := Tryz.zeroValue154
  t51 := Tryz.underlying151
  a51 := Tryz.isAgg151
  z51 := Tryz.sizeOf151
  v51 := Tryz.zeroValue151
  t146 := Tryz.underlying179
  a146 := Tryz.isAgg179
  z146 := Tryz.sizeOf179
  v146 := Tryz.zeroValue179 }
open Go.RowKit Go.Lib in
theorem Tryz.bytealg_IndexRabinKarp (s sep : ByteArray) (h1 : 1 ≤ sep.size) (h2 : sep.size ≤ s.size) (hs : s.size < 4294967281) (w : World) :
    Calls Tryz.prog 91 #[.string s, .string sep] w fun e w' => e = .returned (.int .i64 (Lib.index s.data.toList sep.data.toList)) ∧ w' = w := Any.bytealg_IndexRabinKarp Tryz.lays267 s sep h1 h2 hs w
def Tryz.lays219_ren : Go.Shelf.Ren := ⟨fun | 219 => 72 | 217 => 88 | 225 => 89 | 224 => 90 | 267 => 91 | 266 => 105 | 314 => 106 | n => n, fun | 9 => 9 | 3 => 3 | 4 => 4 | 5 => 5 | 46 => 154 | 146 => 179 | 51 => 151 | n => n, fun | 1 => 2 | n => n⟩
theorem Tryz.lays219 : Go.Proofs.Lays.n219 Tryz.prog Tryz.lays219_ren := {
  mixed := by kernel_rfl
  f217 := Tryz.func88.trans (congrArg some (by kernel_rfl))
  f219 := Tryz.func72.trans (congrArg some (by kernel_rfl))
  f224 := Tryz.func90.trans (congrArg some (by kernel_rfl))
  f225 := Tryz.func89.trans (congrArg some (by kernel_rfl))
  f266 := Tryz.func105.trans (congrArg some (by kernel_rfl))
  f267 := Tryz.func91.trans (congrArg some (by kernel_rfl))
  f314 := Tryz.func106.trans (congrArg some (by kernel_rfl))
  t3 := Tryz.underlying3
  a3 := Tryz.isAgg3
  z3 := Tryz.sizeOf3
  v3 := Tryz.zeroValue3
  t4 := Tryz.underlying4
  a4 := Tryz.isAgg4
  z4 := Tryz.sizeOf4
  v4 := Tryz.zeroValue4
  t5 := Tryz.underlying5
  a5 := Tryz.isAgg5
  z5 := Tryz.sizeOf5
  v5 := Tryz.zeroValue5
  t9 := Tryz.underlying9
  a9 := Tryz.isAgg9
  z9 := Tryz.sizeOf9
  v9 := Tryz.zeroValue9
  t46 := Tryz.underlying154
  a46 := Tryz.isAgg154
  z46 := Tryz.sizeOf154
  v46 := Tryz.zeroValue154
  t51 := Tryz.underlying151
  a51 := Tryz.isAgg151
  z51 := Tryz.sizeOf151
  v51 := Tryz.zeroValue151
  t146 := Tryz.underlying179
  a146 := Tryz.isAgg179
  z146 := Tryz.sizeOf179
  v146 := Tryz.zeroValue179
  g1 := by kernel_rfl }
open Go.RowKit Go.Lib in
/-- internal/stringslite.Index (what strings.Index calls) AT A substr OF ONE BYTE c: IT RETURNS 'Lib.indexByte s c'; the world is as it was. (LAID: no walk: one application.) -/
theorem Tryz.stringslite_Index_one (s : ByteArray) (c : UInt8) (w : World) :
    Calls Tryz.prog 72 #[.string s, .string ⟨#[c]⟩] w fun e w' => e = .returned (.int .i64 (Lib.indexByte s.data.toList c)) ∧ w' = w := Any.stringslite_Index_one Tryz.lays219 s c w
open Go.RowKit Go.Lib in
/-- internal/stringslite.Index (what strings.Index calls) AT A substr OF WHATEVER LENGTH: IT RETURNS 'Lib.index s substr'; the world is as it was. 'm': what internal/bytealg.MaxLen holds: whatever. (LAID: no walk: one application.) -/
theorem Tryz.stringslite_Index (s sub : ByteArray) (m : Int) (w : World) (hs : s.size < 4294967281) (hm : w.cell? ⟨2, 0, none⟩ = some (.int .i64 m)) :
    Calls Tryz.prog 72 #[.string s, .string sub] w fun e w' => e = .returned (.int .i64 (Lib.index s.data.toList sub.data.toList)) ∧ w' = w := Any.stringslite_Index Tryz.lays219 s sub m w hs hm
def Tryz.lays143_ren : Go.Shelf.Ren := ⟨fun | 143 => 54 | 219 => 72 | 217 => 88 | 225 => 89 | 224 => 90 | 267 => 91 | 266 => 105 | 314 => 106 | n => n, fun | 9 => 9 | 3 => 3 | 4 => 4 | 5 => 5 | 46 => 154 | 146 => 179 | 51 => 151 | n => n, fun | 1 => 2 | n => n⟩
theorem Tryz.lays143 : Go.Proofs.Lays.n143 Tryz.prog Tryz.lays143_ren := {
  mixed := by kernel_rfl
  f143 := Tryz.func54.trans (congrArg some (by kernel_rfl))
  f217 := Tryz.func88.trans (congrArg some (by kernel_rfl))
  f219 := Tryz.func72.trans (congrArg some (by kernel_rfl))
  f224 := Tryz.func90.trans (congrArg some (by kernel_rfl))
  f225 := Tryz.func89.trans (congrArg some (by kernel_rfl))
  f266 := Tryz.func105.trans (congrArg some (by kernel_rfl))
  f267 := Tryz.func91.trans (congrArg some (by kernel_rfl))
  f314 := Tryz.func106.trans (congrArg some (by kernel_rfl))
  t3 := Tryz.underlying3
  a3 := Tryz.isAgg3
  z3 := Tryz.sizeOf3
  v3 := Tryz.zeroValue3
  t4 := Tryz.underlying4
  a4 := Tryz.isAgg4
  z4 := Tryz.sizeOf4
  v4 := Tryz.zeroValue4
  t5 := Tryz.underlying5
  a5 := Tryz.isAgg5
  z5 := Tryz.sizeOf5
  v5 := Tryz.zeroValue5
  t9 := Tryz.underlying9
  a9 := Tryz.isAgg9
  z9 := Tryz.sizeOf9
  v9 := Tryz.zeroValue9
  t46 := Tryz.underlying154
  a46 := Tryz.isAgg154
  z46 := Tryz.sizeOf154
  v46 := Tryz.zeroValue154
  t51 := Tryz.underlying151
  a51 := Tryz.isAgg151
  z51 := Tryz.sizeOf151
  v51 := Tryz.zeroValue151
  t146 := Tryz.underlying179
  a146 := Tryz.isAgg179
  z146 := Tryz.sizeOf179
  v146 := Tryz.zeroValue179
  g1 := by kernel_rfl }
open Go.RowKit Go.Lib in
/-- strings.Index: "Index returns the index of the first instance of substr in s, or -1 if substr is not present in s.": AT A substr OF ONE BYTE c: IT RETURNS 'Lib.indexByte s c'; the world is as it was. (LAID: no walk: one application.) -/
theorem Tryz.strings_Index_one (s : ByteArray) (c : UInt8) (w : World) :
    Calls Tryz.prog 54 #[.string s, .string ⟨#[c]⟩] w fun e w' => e = .returned (.int .i64 (Lib.indexByte s.data.toList c)) ∧ w' = w := Any.strings_Index_one Tryz.lays143 s c w
open Go.RowKit Go.Lib in
/-- strings.Index: "Index returns the index of the first instance of substr in s, or -1 if substr is not present in s.": IT RETURNS 'Lib.index s substr'; the world is as it was. (LAID: no walk: one application.) -/
theorem Tryz.strings_Index (s sub : ByteArray) (m : Int) (w : World) (hs : s.size < 4294967281) (hm : w.cell? ⟨2, 0, none⟩ = some (.int .i64 m)) :
    Calls Tryz.prog 54 #[.string s, .string sub] w fun e w' => e = .returned (.int .i64 (Lib.index s.data.toList sub.data.toList)) ∧ w' = w := Any.strings_Index Tryz.lays143 s sub m w hs hm
def Tryz.lays138_ren : Go.Shelf.Ren := ⟨fun | 138 => 53 | 195 => 69 | 218 => 71 | 143 => 54 | 219 => 72 | 217 => 88 | 225 => 89 | 224 => 90 | 267 => 91 | 266 => 105 | 314 => 106 | n => n, fun | 9 => 9 | 3 => 3 | 4 => 4 | 5 => 5 | 0 => 0 | 46 => 154 | 146 => 179 | 51 => 151 | n => n, fun | 1 => 2 | n => n⟩
theorem Tryz.lays138 : Go.Proofs.Lays.n138 Tryz.prog Tryz.lays138_ren := {
  mixed := by kernel_rfl
  f138 := Tryz.func53.trans (congrArg some (by kernel_rfl))
  f143 := Tryz.func54.trans (congrArg some (by kernel_rfl))
  f195 := Tryz.func69.trans (congrArg some (by kernel_rfl))
  f217 := Tryz.func88.trans (congrArg some (by kernel_rfl))
  f218 := Tryz.func71.trans (congrArg some (by kernel_rfl))
  f219 := Tryz.func72.trans (congrArg some (by kernel_rfl))
  f224 := Tryz.func90.trans (congrArg some (by kernel_rfl))
  f225 := Tryz.func89.trans (congrArg some (by kernel_rfl))
  f266 := Tryz.func105.trans (congrArg some (by kernel_rfl))
  f267 := Tryz.func91.trans (congrArg some (by kernel_rfl))
  f314 := Tryz.func106.trans (congrArg some (by kernel_rfl))
  t0 := Tryz.underlying0
  a0 := Tryz.isAgg0
  z0 := Tryz.sizeOf0
  v0 := Tryz.zeroValue0
  t3 := Tryz.underlying3
  a3 := Tryz.isAgg3
  z3 := Tryz.sizeOf3
  v3 := Tryz.zeroValue3
  t4 := Tryz.underlying4
  a4 := Tryz.isAgg4
  z4 := Tryz.sizeOf4
  v4 := Tryz.zeroValue4
  t5 := Tryz.underlying5
  a5 := Tryz.isAgg5
  z5 := Tryz.sizeOf5
  v5 := Tryz.zeroValue5
  t9 := Tryz.underlying9
  a9 := Tryz.isAgg9
  z9 := Tryz.sizeOf9
  v9 := Tryz.zeroValue9
  t46 := Tryz.underlying154
  a46 := Tryz.isAgg154
  z46 := Tryz.sizeOf154
  v46 := Tryz.zeroValue154
  t51 := Tryz.underlying151
  a51 := Tryz.isAgg151
  z51 := Tryz.sizeOf151
  v51 := Tryz.zeroValue151
  t146 := Tryz.underlying179
  a146 := Tryz.isAgg179
  z146 := Tryz.sizeOf179
  v146 := Tryz.zeroValue179
  g1 := by kernel_rfl }
open Go.RowKit Go.Lib in
/-- strings.Count AT A substr OF ONE BYTE ('hp'): "Count counts the number of non-overlapping instances of substr in s.": IT RETURNS 'Lib.countByte s (that byte)'; the world is as it was. ✋ NO CONTRACT HERE YET at an empty substr (utf8.RuneCountInString) or at a longer one (a loop over strings.Index). (LAID: no walk: one application.) -/
theorem Tryz.strings_Count_one (s : ByteArray) (c : UInt8) (w : World) :
    Calls Tryz.prog 53 #[.string s, .string ⟨#[c]⟩] w fun e w' => e = .returned (.int .i64 (Lib.countByte s.data.toList c)) ∧ w' = w := Any.strings_Count_one Tryz.lays138 s c w
open Go.RowKit Go.Lib in
/-- strings.Count AT A substr OF TWO BYTES OR MORE: "Count counts the number of non-overlapping instances of substr in s.": IT RETURNS 'Lib.count s substr'; the world is as it was. (LAID: no walk: one application.) -/
theorem Tryz.strings_Count (s sub : ByteArray) (m : Int) (w : World) (hs : s.size < 4294967281) (hm : w.cell? ⟨2, 0, none⟩ = some (.int .i64 m)) (h2 : 2 ≤ sub.size) :
    Calls Tryz.prog 53 #[.string s, .string sub] w fun e w' => e = .returned (.int .i64 (Lib.countB s sub)) ∧ w' = w := Any.strings_Count Tryz.lays138 s sub m w hs hm h2
def Tryz.laysM219_ren : Go.Shelf.Ren := ⟨fun | 219 => 72 | 217 => 88 | 225 => 89 | 224 => 90 | 267 => 91 | 266 => 105 | 314 => 106 | n => n, fun | 9 => 9 | 3 => 3 | 4 => 4 | 5 => 5 | 46 => 154 | 146 => 179 | 51 => 151 | n => n, fun | 1 => 2 | n => n⟩
theorem Tryz.laysM219 : Go.Proofs.LaysM.n219 Tryz.prog Tryz.laysM219_ren := {
  mixed := by kernel_rfl
  f217 := Tryz.func88.trans (congrArg some (by kernel_rfl))
  f219 := Tryz.func72.trans (congrArg some (by kernel_rfl))
  f224 := Tryz.func90.trans (congrArg some (by kernel_rfl))
  f225 := Tryz.func89.trans (congrArg some (by kernel_rfl))
  f266 := Tryz.func105.trans (congrArg some (by kernel_rfl))
  f267 := Tryz.func91.trans (congrArg some (by kernel_rfl))
  f314 := Tryz.func106.trans (congrArg some (by kernel_rfl))
  t3 := Tryz.underlying3
  a3 := Tryz.isAgg3
  z3 := Tryz.sizeOf3
  v3 := Tryz.zeroValue3
  t4 := Tryz.underlying4
  a4 := Tryz.isAgg4
  z4 := Tryz.sizeOf4
  v4 := Tryz.zeroValue4
  t5 := Tryz.underlying5
  a5 := Tryz.isAgg5
  z5 := Tryz.sizeOf5
  v5 := Tryz.zeroValue5
  t9 := Tryz.underlying9
  a9 := Tryz.isAgg9
  z9 := Tryz.sizeOf9
  v9 := Tryz.zeroValue9
  t46 := Tryz.underlying154
  a46 := Tryz.isAgg154
  z46 := Tryz.sizeOf154
  v46 := Tryz.zeroValue154
  t51 := Tryz.underlying151
  a51 := Tryz.isAgg151
  z51 := Tryz.sizeOf151
  v51 := Tryz.zeroValue151
  t146 := Tryz.underlying179
  a146 := Tryz.isAgg179
  z146 := Tryz.sizeOf179
  v146 := Tryz.zeroValue179
  g1 := by kernel_rfl
  i3 := by kernel_rfl
  i4 := by kernel_rfl
  i5 := by kernel_rfl
  i9 := by kernel_rfl
  i46 := by kernel_rfl
  i51 := by kernel_rfl
  i146 := by kernel_rfl
  m1 := by kernel_rfl
  s1_3 := fun w h => Go.Proofs.cell_of_shapedOpen_int (zero := #[.int .i64 0]) (t := 3) h (of_decide_eq_true (by kernel_rfl)) (by kernel_rfl) rfl (by kernel_rfl) (by kernel_rfl) Tryz.underlying3 }
open Go.RowKit Go.Lib in
theorem Tryz.stringslite_Index_shaped (s sub : ByteArray) (w : World) (h : w.ShapedOpen Tryz.prog) (hs : s.size < 4294967281) :
    Calls Tryz.prog 72 #[.string s, .string sub] w fun e w' => e = .returned (.int .i64 (Lib.index s.data.toList sub.data.toList)) ∧ w' = w := Any.stringslite_Index_shaped Tryz.laysM219 s sub w h hs
def Tryz.laysM143_ren : Go.Shelf.Ren := ⟨fun | 143 => 54 | 219 => 72 | 217 => 88 | 225 => 89 | 224 => 90 | 267 => 91 | 266 => 105 | 314 => 106 | n => n, fun | 9 => 9 | 3 => 3 | 4 => 4 | 5 => 5 | 46 => 154 | 146 => 179 | 51 => 151 | n => n, fun | 1 => 2 | n => n⟩
theorem Tryz.laysM143 : Go.Proofs.LaysM.n143 Tryz.prog Tryz.laysM143_ren := {
  mixed := by kernel_rfl
  f143 := Tryz.func54.trans (congrArg some (by kernel_rfl))
  f217 := Tryz.func88.trans (congrArg some (by kernel_rfl))
  f219 := Tryz.func72.trans (congrArg some (by kernel_rfl))
  f224 := Tryz.func90.trans (congrArg some (by kernel_rfl))
  f225 := Tryz.func89.trans (congrArg some (by kernel_rfl))
  f266 := Tryz.func105.trans (congrArg some (by kernel_rfl))
  f267 := Tryz.func91.trans (congrArg some (by kernel_rfl))
  f314 := Tryz.func106.trans (congrArg some (by kernel_rfl))
  t3 := Tryz.underlying3
  a3 := Tryz.isAgg3
  z3 := Tryz.sizeOf3
  v3 := Tryz.zeroValue3
  t4 := Tryz.underlying4
  a4 := Tryz.isAgg4
  z4 := Tryz.sizeOf4
  v4 := Tryz.zeroValue4
  t5 := Tryz.underlying5
  a5 := Tryz.isAgg5
  z5 := Tryz.sizeOf5
  v5 := Tryz.zeroValue5
  t9 := Tryz.underlying9
  a9 := Tryz.isAgg9
  z9 := Tryz.sizeOf9
  v9 := Tryz.zeroValue9
  t46 := Tryz.underlying154
  a46 := Tryz.isAgg154
  z46 := Tryz.sizeOf154
  v46 := Tryz.zeroValue154
  t51 := Tryz.underlying151
  a51 := Tryz.isAgg151
  z51 := Tryz.sizeOf151
  v51 := Tryz.zeroValue151
  t146 := Tryz.underlying179
  a146 := Tryz.isAgg179
  z146 := Tryz.sizeOf179
  v146 := Tryz.zeroValue179
  g1 := by kernel_rfl
  i3 := by kernel_rfl
  i4 := by kernel_rfl
  i5 := by kernel_rfl
  i9 := by kernel_rfl
  i46 := by kernel_rfl
  i51 := by kernel_rfl
  i146 := by kernel_rfl
  m1 := by kernel_rfl
  s1_3 := fun w h => Go.Proofs.cell_of_shapedOpen_int (zero := #[.int .i64 0]) (t := 3) h (of_decide_eq_true (by kernel_rfl)) (by kernel_rfl) rfl (by kernel_rfl) (by kernel_rfl) Tryz.underlying3 }
open Go.RowKit Go.Lib in
theorem Tryz.strings_Index_shaped (s sub : ByteArray) (w : World) (h : w.ShapedOpen Tryz.prog) (hs : s.size < 4294967281) :
    Calls Tryz.prog 54 #[.string s, .string sub] w fun e w' => e = .returned (.int .i64 (Lib.index s.data.toList sub.data.toList)) ∧ w' = w := Any.strings_Index_shaped Tryz.laysM143 s sub w h hs
def Tryz.laysM138_ren : Go.Shelf.Ren := ⟨fun | 138 => 53 | 195 => 69 | 218 => 71 | 143 => 54 | 219 => 72 | 217 => 88 | 225 => 89 | 224 => 90 | 267 => 91 | 266 => 105 | 314 => 106 | n => n, fun | 9 => 9 | 3 => 3 | 4 => 4 | 5 => 5 | 0 => 0 | 46 => 154 | 146 => 179 | 51 => 151 | n => n, fun | 1 => 2 | n => n⟩
theorem Tryz.laysM138 : Go.Proofs.LaysM.n138 Tryz.prog Tryz.laysM138_ren := {
  mixed := by kernel_rfl
  f138 := Tryz.func53.trans (congrArg some (by kernel_rfl))
  f143 := Tryz.func54.trans (congrArg some (by kernel_rfl))
  f195 := Tryz.func69.trans (congrArg some (by kernel_rfl))
  f217 := Tryz.func88.trans (congrArg some (by kernel_rfl))
  f218 := Tryz.func71.trans (congrArg some (by kernel_rfl))
  f219 := Tryz.func72.trans (congrArg some (by kernel_rfl))
  f224 := Tryz.func90.trans (congrArg some (by kernel_rfl))
  f225 := Tryz.func89.trans (congrArg some (by kernel_rfl))
  f266 := Tryz.func105.trans (congrArg some (by kernel_rfl))
  f267 := Tryz.func91.trans (congrArg some (by kernel_rfl))
  f314 := Tryz.func106.trans (congrArg some (by kernel_rfl))
  t0 := Tryz.underlying0
  a0 := Tryz.isAgg0
  z0 := Tryz.sizeOf0
  v0 := Tryz.zeroValue0
  t3 := Tryz.underlying3
  a3 := Tryz.isAgg3
  z3 := Tryz.sizeOf3
  v3 := Tryz.zeroValue3
  t4 := Tryz.underlying4
  a4 := Tryz.isAgg4
  z4 := Tryz.sizeOf4
  v4 := Tryz.zeroValue4
  t5 := Tryz.underlying5
  a5 := Tryz.isAgg5
  z5 := Tryz.sizeOf5
  v5 := Tryz.zeroValue5
  t9 := Tryz.underlying9
  a9 := Tryz.isAgg9
  z9 := Tryz.sizeOf9
  v9 := Tryz.zeroValue9
  t46 := Tryz.underlying154
  a46 := Tryz.isAgg154
  z46 := Tryz.sizeOf154
  v46 := Tryz.zeroValue154
  t51 := Tryz.underlying151
  a51 := Tryz.isAgg151
  z51 := Tryz.sizeOf151
  v51 := Tryz.zeroValue151
  t146 := Tryz.underlying179
  a146 := Tryz.isAgg179
  z146 := Tryz.sizeOf179
  v146 := Tryz.zeroValue179
  g1 := by kernel_rfl
  i0 := by kernel_rfl
  i3 := by kernel_rfl
  i4 := by kernel_rfl
  i5 := by kernel_rfl
  i9 := by kernel_rfl
  i46 := by kernel_rfl
  i51 := by kernel_rfl
  i146 := by kernel_rfl
  m1 := by kernel_rfl
  s1_3 := fun w h => Go.Proofs.cell_of_shapedOpen_int (zero := #[.int .i64 0]) (t := 3) h (of_decide_eq_true (by kernel_rfl)) (by kernel_rfl) rfl (by kernel_rfl) (by kernel_rfl) Tryz.underlying3 }
open Go.RowKit Go.Lib in
theorem Tryz.strings_Count_shaped (s sub : ByteArray) (w : World) (h : w.ShapedOpen Tryz.prog) (hs : s.size < 4294967281) (h2 : 2 ≤ sub.size) :
    Calls Tryz.prog 53 #[.string s, .string sub] w fun e w' => e = .returned (.int .i64 (Lib.countB s sub)) ∧ w' = w := Any.strings_Count_shaped Tryz.laysM138 s sub w h hs h2
def Tryz.lays206_ren : Go.Shelf.Ren := ⟨fun | 206 => 107 | n => n, fun | 9 => 9 | 4 => 4 | 3 => 3 | n => n, fun | n => n⟩
theorem Tryz.lays206 : Go.Proofs.Lays.n206 Tryz.prog Tryz.lays206_ren := {
  mixed := by kernel_rfl
  f206 := Tryz.func107.trans (congrArg some (by kernel_rfl))
  t3 := Tryz.underlying3
  a3 := Tryz.isAgg3
  z3 := Tryz.sizeOf3
  v3 := Tryz.zeroValue3
  t4 := Tryz.underlying4
  a4 := Tryz.isAgg4
  z4 := Tryz.sizeOf4
  v4 := Tryz.zeroValue4
  t9 := Tryz.underlying9
  a9 := Tryz.isAgg9
  z9 := Tryz.sizeOf9
  v9 := Tryz.zeroValue9 }
open Go.RowKit Go.Lib in
/-- internal/stringslite.HasPrefix (what strings.HasPrefix calls). (LAID: no walk: one application.) -/
theorem Tryz.stringslite_HasPrefix (s p : ByteArray) (w : World) :
    Calls Tryz.prog 107 #[.string s, .string p] w fun e w' => e = .returned (.bool (Lib.hasPrefix s.data.toList p.data.toList)) ∧ w' = w := Any.stringslite_HasPrefix Tryz.lays206 s p w
def Tryz.lays99_ren : Go.Shelf.Ren := ⟨fun | 99 => 114 | 206 => 107 | n => n, fun | 9 => 9 | 4 => 4 | 3 => 3 | n => n, fun | n => n⟩
theorem Tryz.lays99 : Go.Proofs.Lays.n99 Tryz.prog Tryz.lays99_ren := {
  mixed := by kernel_rfl
  f99 := Tryz.func114.trans (congrArg some (by kernel_rfl))
  f206 := Tryz.func107.trans (congrArg some (by kernel_rfl))
  t3 := Tryz.underlying3
  a3 := Tryz.isAgg3
  z3 := Tryz.sizeOf3
  v3 := Tryz.zeroValue3
  t4 := Tryz.underlying4
  a4 := Tryz.isAgg4
  z4 := Tryz.sizeOf4
  v4 := Tryz.zeroValue4
  t9 := Tryz.underlying9
  a9 := Tryz.isAgg9
  z9 := Tryz.sizeOf9
  v9 := Tryz.zeroValue9 }
open Go.RowKit Go.Lib in
/-- strings.HasPrefix: "HasPrefix reports whether the string s begins with prefix.": IT RETURNS 'Lib.hasPrefix s prefix'; the world is as it was. (LAID: no walk: one application.) -/
theorem Tryz.strings_HasPrefix (s p : ByteArray) (w : World) :
    Calls Tryz.prog 114 #[.string s, .string p] w fun e w' => e = .returned (.bool (Lib.hasPrefix s.data.toList p.data.toList)) ∧ w' = w := Any.strings_HasPrefix Tryz.lays99 s p w
open Go.RowKit Go.Lib in
/-- strings.Count at whatever sep that is not empty: the two roads under one statement. (LAID: no walk: one application.) -/
theorem Tryz.strings_Count_any (s sep : ByteArray) (m : Int) (w : World) (hs : s.size < 4294967281) (hm : w.cell? ⟨2, 0, none⟩ = some (.int .i64 m)) (h1 : 1 ≤ sep.size) :
    Calls Tryz.prog 53 #[.string s, .string sep] w fun e w' => e = .returned (.int .i64 (Lib.countB s sep)) ∧ w' = w := Any.strings_Count_any Tryz.lays138 s sep m w hs hm h1
def Tryz.lays221_ren : Go.Shelf.Ren := ⟨fun | 221 => 45 | 268 => 52 | 138 => 53 | 143 => 54 | 195 => 69 | 197 => 70 | 218 => 71 | 219 => 72 | 260 => 87 | 217 => 88 | 225 => 89 | 224 => 90 | 267 => 91 | 266 => 105 | 314 => 106 | n => n, fun | 9 => 9 | 3 => 3 | 31 => 23 | 4 => 4 | 0 => 0 | 105 => 144 | 21 => 21 | 5 => 5 | 46 => 154 | 119 => 175 | 139 => 178 | 138 => 177 | 146 => 179 | 51 => 151 | n => n, fun | 1 => 2 | 3 => 3 | 4 => 4 | n => n⟩
theorem Tryz.lays221 : Go.Proofs.Lays.n221 Tryz.prog Tryz.lays221_ren := {
  mixed := by kernel_rfl
  f138 := Tryz.func53.trans (congrArg some (by kernel_rfl))
  f143 := Tryz.func54.trans (congrArg some (by kernel_rfl))
  f195 := Tryz.func69.trans (congrArg some (by kernel_rfl))
  f197 := Tryz.func70.trans (congrArg some (by kernel_rfl))
  f217 := Tryz.func88.trans (congrArg some (by kernel_rfl))
  f218 := Tryz.func71.trans (congrArg some (by kernel_rfl))
  f219 := Tryz.func72.trans (congrArg some (by kernel_rfl))
  f221 := Tryz.func45.trans (congrArg some (by kernel_rfl))
  f224 := Tryz.func90.trans (congrArg some (by kernel_rfl))
  f225 := Tryz.func89.trans (congrArg some (by kernel_rfl))
  f260 := Tryz.func87.trans (congrArg some (by kernel_rfl))
  f266 := Tryz.func105.trans (congrArg some (by kernel_rfl))
  f267 := Tryz.func91.trans (congrArg some (by kernel_rfl))
  f268 := Tryz.func52.trans (congrArg some (by kernel_rfl))
  f314 := Tryz.func106.trans (congrArg some (by kernel_rfl))
  t0 := Tryz.underlying0
  a0 := Tryz.isAgg0
  z0 := Tryz.sizeOf0
  v0 := Tryz.zeroValue0
  t3 := Tryz.underlying3
  a3 := Tryz.isAgg3
  z3 := Tryz.sizeOf3
  v3 := Tryz.zeroValue3
  t4 := Tryz.underlying4
  a4 := Tryz.isAgg4
  z4 := Tryz.sizeOf4
  v4 := Tryz.zeroValue4
  t5 := Tryz.underlying5
  a5 := Tryz.isAgg5
  z5 := Tryz.sizeOf5
  v5 := Tryz.zeroValue5
  t9 := Tryz.underlying9
  a9 := Tryz.isAgg9
  z9 := Tryz.sizeOf9
  v9 := Tryz.zeroValue9
  t21 := Tryz.underlying21
  a21 := Tryz.isAgg21
  z21 := Tryz.sizeOf21
  v21 := Tryz.zeroValue21
  t31 := Tryz.underlying23
  a31 := Tryz.isAgg23
  z31 := Tryz.sizeOf23
  v31 := Tryz.zeroValue23
  t46 := Tryz.underlying154
  a46 := Tryz.isAgg154
  z46 := Tryz.sizeOf154
  v46 := Tryz.zeroValue154
  t51 := Tryz.underlying151
  a51 := Tryz.isAgg151
  z51 := Tryz.sizeOf151
  v51 := Tryz.zeroValue151
  t105 := Tryz.underlying144
  a105 := Tryz.isAgg144
  z105 := Tryz.sizeOf144
  v105 := Tryz.zeroValue144
  t119 := Tryz.underlying175
  a119 := Tryz.isAgg175
  z119 := Tryz.sizeOf175
  t138 := Tryz.underlying177
  a138 := Tryz.isAgg177
  z138 := Tryz.sizeOf177
  v138 := Tryz.zeroValue177
  t139 := Tryz.underlying178
  a139 := Tryz.isAgg178
  z139 := Tryz.sizeOf178
  v139 := Tryz.zeroValue178
  t146 := Tryz.underlying179
  a146 := Tryz.isAgg179
  z146 := Tryz.sizeOf179
  v146 := Tryz.zeroValue179
  g1 := by kernel_rfl
  g3 := by kernel_rfl
  g4 := by kernel_rfl }
open Go.RowKit Go.Lib in
theorem Tryz.strings_genSplit (s sep : ByteArray) (sv : Nat) (n : Int) (N : Nat) (m : Int) (w : World) (hs : s.size < 4294967281) (hm : w.cell? ⟨2, 0, none⟩ = some (.int .i64 m)) (h1 : 1 ≤ sep.size) (hsv : sv ≤ sep.size) (hn0 : n ≠ 0) (hn63 : n ≤ 9223372036854775807) (hN : (N : Int) = min (if n < 0 then (Lib.countB s sep : Int) + 1 else n) ((s.size : Int) + 1)) :
    Calls Tryz.prog 45 #[.string s, .string sep, .int .i64 sv, .int .i64 n] w fun e w' =>
      e = .returned (.slice (some ⟨w.heap.size, 0, none⟩) (Lib.splitB sep sv (N - 1) s).length N) ∧ w' = w.alloc (.cells (Lib.cellsOf (Lib.splitB sep sv (N - 1) s) N) 9) := Any.strings_genSplit Tryz.lays221 (by kernel_rfl) s sep sv n N m w hs hm h1 hsv hn0 hn63 hN
def Tryz.lays146_ren : Go.Shelf.Ren := ⟨fun | 146 => 33 | 221 => 45 | 268 => 52 | 138 => 53 | 143 => 54 | 195 => 69 | 197 => 70 | 218 => 71 | 219 => 72 | 260 => 87 | 217 => 88 | 225 => 89 | 224 => 90 | 267 => 91 | 266 => 105 | 314 => 106 | n => n, fun | 9 => 9 | 31 => 23 | 3 => 3 | 4 => 4 | 0 => 0 | 105 => 144 | 21 => 21 | 5 => 5 | 46 => 154 | 119 => 175 | 139 => 178 | 138 => 177 | 146 => 179 | 51 => 151 | n => n, fun | 1 => 2 | 3 => 3 | 4 => 4 | n => n⟩
theorem Tryz.lays146 : Go.Proofs.Lays.n146 Tryz.prog Tryz.lays146_ren := {
  mixed := by kernel_rfl
  f138 := Tryz.func53.trans (congrArg some (by kernel_rfl))
  f143 := Tryz.func54.trans (congrArg some (by kernel_rfl))
  f146 := Tryz.func33.trans (congrArg some (by kernel_rfl))
  f195 := Tryz.func69.trans (congrArg some (by kernel_rfl))
  f197 := Tryz.func70.trans (congrArg some (by kernel_rfl))
  f217 := Tryz.func88.trans (congrArg some (by kernel_rfl))
  f218 := Tryz.func71.trans (congrArg some (by kernel_rfl))
  f219 := Tryz.func72.trans (congrArg some (by kernel_rfl))
  f221 := Tryz.func45.trans (congrArg some (by kernel_rfl))
  f224 := Tryz.func90.trans (congrArg some (by kernel_rfl))
  f225 := Tryz.func89.trans (congrArg some (by kernel_rfl))
  f260 := Tryz.func87.trans (congrArg some (by kernel_rfl))
  f266 := Tryz.func105.trans (congrArg some (by kernel_rfl))
  f267 := Tryz.func91.trans (congrArg some (by kernel_rfl))
  f268 := Tryz.func52.trans (congrArg some (by kernel_rfl))
  f314 := Tryz.func106.trans (congrArg some (by kernel_rfl))
  t0 := Tryz.underlying0
  a0 := Tryz.isAgg0
  z0 := Tryz.sizeOf0
  v0 := Tryz.zeroValue0
  t3 := Tryz.underlying3
  a3 := Tryz.isAgg3
  z3 := Tryz.sizeOf3
  v3 := Tryz.zeroValue3
  t4 := Tryz.underlying4
  a4 := Tryz.isAgg4
  z4 := Tryz.sizeOf4
  v4 := Tryz.zeroValue4
  t5 := Tryz.underlying5
  a5 := Tryz.isAgg5
  z5 := Tryz.sizeOf5
  v5 := Tryz.zeroValue5
  t9 := Tryz.underlying9
  a9 := Tryz.isAgg9
  z9 := Tryz.sizeOf9
  v9 := Tryz.zeroValue9
  t21 := Tryz.underlying21
  a21 := Tryz.isAgg21
  z21 := Tryz.sizeOf21
  v21 := Tryz.zeroValue21
  t31 := Tryz.underlying23
  a31 := Tryz.isAgg23
  z31 := Tryz.sizeOf23
  v31 := Tryz.zeroValue23
  t46 := Tryz.underlying154
  a46 := Tryz.isAgg154
  z46 := Tryz.sizeOf154
  v46 := Tryz.zeroValue154
  t51 := Tryz.underlying151
  a51 := Tryz.isAgg151
  z51 := Tryz.sizeOf151
  v51 := Tryz.zeroValue151
  t105 := Tryz.underlying144
  a105 := Tryz.isAgg144
  z105 := Tryz.sizeOf144
  v105 := Tryz.zeroValue144
  t119 := Tryz.underlying175
  a119 := Tryz.isAgg175
  z119 := Tryz.sizeOf175
  t138 := Tryz.underlying177
  a138 := Tryz.isAgg177
  z138 := Tryz.sizeOf177
  v138 := Tryz.zeroValue177
  t139 := Tryz.underlying178
  a139 := Tryz.isAgg178
  z139 := Tryz.sizeOf178
  v139 := Tryz.zeroValue178
  t146 := Tryz.underlying179
  a146 := Tryz.isAgg179
  z146 := Tryz.sizeOf179
  v146 := Tryz.zeroValue179
  g1 := by kernel_rfl
  g3 := by kernel_rfl
  g4 := by kernel_rfl }
open Go.RowKit Go.Lib in
/-- strings.Split. (LAID: no walk: one application.) -/
theorem Tryz.strings_Split (s sep : ByteArray) (m : Int) (w : World) (hs : s.size < 4294967281) (hm : w.cell? ⟨2, 0, none⟩ = some (.int .i64 m)) (h1 : 1 ≤ sep.size) :
    Calls Tryz.prog 33 #[.string s, .string sep] w fun e w' =>
      e = .returned (.slice (some ⟨w.heap.size, 0, none⟩) (Lib.countB s sep + 1) (Lib.countB s sep + 1)) ∧ w' = w.alloc (.cells ((Lib.splitB sep 0 (Lib.countB s sep) s).map Value.string).toArray 9) := Any.strings_Split Tryz.lays146 (by kernel_rfl) s sep m w hs hm h1
def Tryz.laysM146_ren : Go.Shelf.Ren := ⟨fun | 146 => 33 | 221 => 45 | 268 => 52 | 138 => 53 | 143 => 54 | 195 => 69 | 197 => 70 | 218 => 71 | 219 => 72 | 260 => 87 | 217 => 88 | 225 => 89 | 224 => 90 | 267 => 91 | 266 => 105 | 314 => 106 | n => n, fun | 9 => 9 | 31 => 23 | 3 => 3 | 4 => 4 | 0 => 0 | 105 => 144 | 21 => 21 | 5 => 5 | 46 => 154 | 119 => 175 | 139 => 178 | 138 => 177 | 146 => 179 | 51 => 151 | n => n, fun | 1 => 2 | 3 => 3 | 4 => 4 | n => n⟩
theorem Tryz.laysM146 : Go.Proofs.LaysM.n146 Tryz.prog Tryz.laysM146_ren := {
  mixed := by kernel_rfl
  f138 := Tryz.func53.trans (congrArg some (by kernel_rfl))
  f143 := Tryz.func54.trans (congrArg some (by kernel_rfl))
  f146 := Tryz.func33.trans (congrArg some (by kernel_rfl))
  f195 := Tryz.func69.trans (congrArg some (by kernel_rfl))
  f197 := Tryz.func70.trans (congrArg some (by kernel_rfl))
  f217 := Tryz.func88.trans (congrArg some (by kernel_rfl))
  f218 := Tryz.func71.trans (congrArg some (by kernel_rfl))
  f219 := Tryz.func72.trans (congrArg some (by kernel_rfl))
  f221 := Tryz.func45.trans (congrArg some (by kernel_rfl))
  f224 := Tryz.func90.trans (congrArg some (by kernel_rfl))
  f225 := Tryz.func89.trans (congrArg some (by kernel_rfl))
  f260 := Tryz.func87.trans (congrArg some (by kernel_rfl))
  f266 := Tryz.func105.trans (congrArg some (by kernel_rfl))
  f267 := Tryz.func91.trans (congrArg some (by kernel_rfl))
  f268 := Tryz.func52.trans (congrArg some (by kernel_rfl))
  f314 := Tryz.func106.trans (congrArg some (by kernel_rfl))
  t0 := Tryz.underlying0
  a0 := Tryz.isAgg0
  z0 := Tryz.sizeOf0
  v0 := Tryz.zeroValue0
  t3 := Tryz.underlying3
  a3 := Tryz.isAgg3
  z3 := Tryz.sizeOf3
  v3 := Tryz.zeroValue3
  t4 := Tryz.underlying4
  a4 := Tryz.isAgg4
  z4 := Tryz.sizeOf4
  v4 := Tryz.zeroValue4
  t5 := Tryz.underlying5
  a5 := Tryz.isAgg5
  z5 := Tryz.sizeOf5
  v5 := Tryz.zeroValue5
  t9 := Tryz.underlying9
  a9 := Tryz.isAgg9
  z9 := Tryz.sizeOf9
  v9 := Tryz.zeroValue9
  t21 := Tryz.underlying21
  a21 := Tryz.isAgg21
  z21 := Tryz.sizeOf21
  v21 := Tryz.zeroValue21
  t31 := Tryz.underlying23
  a31 := Tryz.isAgg23
  z31 := Tryz.sizeOf23
  v31 := Tryz.zeroValue23
  t46 := Tryz.underlying154
  a46 := Tryz.isAgg154
  z46 := Tryz.sizeOf154
  v46 := Tryz.zeroValue154
  t51 := Tryz.underlying151
  a51 := Tryz.isAgg151
  z51 := Tryz.sizeOf151
  v51 := Tryz.zeroValue151
  t105 := Tryz.underlying144
  a105 := Tryz.isAgg144
  z105 := Tryz.sizeOf144
  v105 := Tryz.zeroValue144
  t119 := Tryz.underlying175
  a119 := Tryz.isAgg175
  z119 := Tryz.sizeOf175
  t138 := Tryz.underlying177
  a138 := Tryz.isAgg177
  z138 := Tryz.sizeOf177
  v138 := Tryz.zeroValue177
  t139 := Tryz.underlying178
  a139 := Tryz.isAgg178
  z139 := Tryz.sizeOf178
  v139 := Tryz.zeroValue178
  t146 := Tryz.underlying179
  a146 := Tryz.isAgg179
  z146 := Tryz.sizeOf179
  v146 := Tryz.zeroValue179
  g1 := by kernel_rfl
  g3 := by kernel_rfl
  g4 := by kernel_rfl
  i0 := by kernel_rfl
  i3 := by kernel_rfl
  i4 := by kernel_rfl
  i5 := by kernel_rfl
  i9 := by kernel_rfl
  i21 := by kernel_rfl
  i31 := by kernel_rfl
  i46 := by kernel_rfl
  i51 := by kernel_rfl
  i105 := by kernel_rfl
  i138 := by kernel_rfl
  i139 := by kernel_rfl
  i146 := by kernel_rfl
  m1 := by kernel_rfl
  s1_3 := fun w h => Go.Proofs.cell_of_shapedOpen_int (zero := #[.int .i64 0]) (t := 3) h (of_decide_eq_true (by kernel_rfl)) (by kernel_rfl) rfl (by kernel_rfl) (by kernel_rfl) Tryz.underlying3
  m3 := by kernel_rfl
  m4 := by kernel_rfl }
open Go.RowKit Go.Lib in
/-- strings.Split, sep not empty. (LAID: no walk: one application.) -/
theorem Tryz.strings_Split_shaped (s sep : ByteArray) (w : World) (h : w.ShapedOpen Tryz.prog) (hs : s.size < 4294967281) (h1 : 1 ≤ sep.size) :
    Calls Tryz.prog 33 #[.string s, .string sep] w fun e w' =>
      e = .returned (.slice (some ⟨w.heap.size, 0, none⟩) (Lib.countB s sep + 1) (Lib.countB s sep + 1)) ∧ w' = w.alloc (.cells ((Lib.splitB sep 0 (Lib.countB s sep) s).map Value.string).toArray 9) := Any.strings_Split_shaped Tryz.laysM146 s sep w h hs h1
def Tryz.lays152_ren : Go.Shelf.Ren := ⟨fun | 152 => 101 | 137 => 119 | 119 => 120 | 224 => 90 | 225 => 89 | 217 => 88 | 266 => 105 | n => n, fun | 9 => 9 | 21 => 21 | 3 => 3 | 4 => 4 | 5 => 5 | 0 => 0 | 46 => 154 | n => n, fun | n => n⟩
theorem Tryz.lays152 : Go.Proofs.Lays.n152 Tryz.prog Tryz.lays152_ren := {
  mixed := by kernel_rfl
  f119 := Tryz.func120.trans (congrArg some (by kernel_rfl))
  f137 := Tryz.func119.trans (congrArg some (by kernel_rfl))
  f152 := Tryz.func101.trans (congrArg some (by kernel_rfl))
  f217 := Tryz.func88.trans (congrArg some (by kernel_rfl))
  f224 := Tryz.func90.trans (congrArg some (by kernel_rfl))
  f225 := Tryz.func89.trans (congrArg some (by kernel_rfl))
  f266 := Tryz.func105.trans (congrArg some (by kernel_rfl))
  t0 := Tryz.underlying0
  a0 := Tryz.isAgg0
  z0 := Tryz.sizeOf0
  v0 := Tryz.zeroValue0
  t3 := Tryz.underlying3
  a3 := Tryz.isAgg3
  z3 := Tryz.sizeOf3
  v3 := Tryz.zeroValue3
  t4 := Tryz.underlying4
  a4 := Tryz.isAgg4
  z4 := Tryz.sizeOf4
  v4 := Tryz.zeroValue4
  t5 := Tryz.underlying5
  a5 := Tryz.isAgg5
  z5 := Tryz.sizeOf5
  v5 := Tryz.zeroValue5
  t9 := Tryz.underlying9
  a9 := Tryz.isAgg9
  z9 := Tryz.sizeOf9
  v9 := Tryz.zeroValue9
  t21 := Tryz.underlying21
  a21 := Tryz.isAgg21
  z21 := Tryz.sizeOf21
  v21 := Tryz.zeroValue21
  t46 := Tryz.underlying154
  a46 := Tryz.isAgg154
  z46 := Tryz.sizeOf154
  v46 := Tryz.zeroValue154 }
open Go.RowKit Go.Lib in
theorem Tryz.strings_IndexRune_ascii (s : ByteArray) (r : Int) (w : World) (h0 : 0 ≤ r) (h1 : r < 128) :
    Calls Tryz.prog 101 #[.string s, .int .i32 r] w fun e w' => e = .returned (.int .i64 (Lib.indexByte s.data.toList r.toNat.toUInt8)) ∧ w' = w := Any.strings_IndexRune_ascii Tryz.lays152 s r w h0 h1
def Tryz.lays151_ren : Go.Shelf.Ren := ⟨fun | 151 => 80 | 152 => 101 | 137 => 119 | 119 => 120 | 224 => 90 | 225 => 89 | 217 => 88 | 266 => 105 | n => n, fun | 9 => 9 | 21 => 21 | 4 => 4 | 3 => 3 | 5 => 5 | 0 => 0 | 46 => 154 | n => n, fun | n => n⟩
theorem Tryz.lays151 : Go.Proofs.Lays.n151 Tryz.prog Tryz.lays151_ren := {
  mixed := by kernel_rfl
  f119 := Tryz.func120.trans (congrArg some (by kernel_rfl))
  f137 := Tryz.func119.trans (congrArg some (by kernel_rfl))
  f151 := Tryz.func80.trans (congrArg some (by kernel_rfl))
  f152 := Tryz.func101.trans (congrArg some (by kernel_rfl))
  f217 := Tryz.func88.trans (congrArg some (by kernel_rfl))
  f224 := Tryz.func90.trans (congrArg some (by kernel_rfl))
  f225 := Tryz.func89.trans (congrArg some (by kernel_rfl))
  f266 := Tryz.func105.trans (congrArg some (by kernel_rfl))
  t0 := Tryz.underlying0
  a0 := Tryz.isAgg0
  z0 := Tryz.sizeOf0
  v0 := Tryz.zeroValue0
  t3 := Tryz.underlying3
  a3 := Tryz.isAgg3
  z3 := Tryz.sizeOf3
  v3 := Tryz.zeroValue3
  t4 := Tryz.underlying4
  a4 := Tryz.isAgg4
  z4 := Tryz.sizeOf4
  v4 := Tryz.zeroValue4
  t5 := Tryz.underlying5
  a5 := Tryz.isAgg5
  z5 := Tryz.sizeOf5
  v5 := Tryz.zeroValue5
  t9 := Tryz.underlying9
  a9 := Tryz.isAgg9
  z9 := Tryz.sizeOf9
  v9 := Tryz.zeroValue9
  t21 := Tryz.underlying21
  a21 := Tryz.isAgg21
  z21 := Tryz.sizeOf21
  v21 := Tryz.zeroValue21
  t46 := Tryz.underlying154
  a46 := Tryz.isAgg154
  z46 := Tryz.sizeOf154
  v46 := Tryz.zeroValue154 }
open Go.RowKit Go.Lib in
theorem Tryz.strings_ContainsRune_ascii (s : ByteArray) (r : Int) (w : World) (h0 : 0 ≤ r) (h1 : r < 128) :
    Calls Tryz.prog 80 #[.string s, .int .i32 r] w fun e w' => e = .returned (.bool (decide (0 ≤ Lib.indexByte s.data.toList r.toNat.toUInt8))) ∧ w' = w := Any.strings_ContainsRune_ascii Tryz.lays151 s r w h0 h1
def Tryz.lays227_ren : Go.Shelf.Ren := ⟨fun | 227 => 60 | n => n, fun | 9 => 9 | 116 => 132 | 4 => 4 | 0 => 0 | 3 => 3 | 5 => 5 | n => n, fun | n => n⟩
theorem Tryz.lays227 : Go.Proofs.Lays.n227 Tryz.prog Tryz.lays227_ren := {
  mixed := by kernel_rfl
  f227 := Tryz.func60.trans (congrArg some (by kernel_rfl))
  t0 := Tryz.underlying0
  a0 := Tryz.isAgg0
  z0 := Tryz.sizeOf0
  v0 := Tryz.zeroValue0
  t3 := Tryz.underlying3
  a3 := Tryz.isAgg3
  z3 := Tryz.sizeOf3
  v3 := Tryz.zeroValue3
  t4 := Tryz.underlying4
  a4 := Tryz.isAgg4
  z4 := Tryz.sizeOf4
  v4 := Tryz.zeroValue4
  t5 := Tryz.underlying5
  a5 := Tryz.isAgg5
  z5 := Tryz.sizeOf5
  v5 := Tryz.zeroValue5
  t9 := Tryz.underlying9
  a9 := Tryz.isAgg9
  z9 := Tryz.sizeOf9
  v9 := Tryz.zeroValue9
  t116 := Tryz.underlying132
  a116 := Tryz.isAgg132
  z116 := Tryz.sizeOf132 }
open Go.RowKit Go.Lib in
theorem Tryz.strings_makeASCIISet (hv116 : ∀ w, (zeroValue 132).run Tryz.prog w = .ok (.agg (Array.replicate 256 (.bool false))) w) (chars : ByteArray) (w : World) (hs : chars.size < 4294967281) (hascii : ∀ (j : Nat) b, chars.data.toList[j]? = some b → b.toNat < 128) :
    Calls Tryz.prog 60 #[.string chars] w fun e w' => e = .returned (.tuple #[.agg (Lib.setCells chars.data.toList), .bool true]) ∧ w' = w.alloc (.cells (Lib.setCells chars.data.toList) 132) := Any.strings_makeASCIISet Tryz.lays227 hv116 (by kernel_rfl) chars w hs hascii
def Tryz.lays228_ren : Go.Shelf.Ren := ⟨fun | 228 => 79 | n => n, fun | 124 => 136 | 5 => 5 | 4 => 4 | 0 => 0 | 116 => 132 | n => n, fun | n => n⟩
theorem Tryz.lays228 : Go.Proofs.Lays.n228 Tryz.prog Tryz.lays228_ren := {
  mixed := by kernel_rfl
  f228 := Tryz.func79.trans (congrArg some (by kernel_rfl))
  t0 := Tryz.underlying0
  a0 := Tryz.isAgg0
  z0 := Tryz.sizeOf0
  v0 := Tryz.zeroValue0
  t4 := Tryz.underlying4
  a4 := Tryz.isAgg4
  z4 := Tryz.sizeOf4
  v4 := Tryz.zeroValue4
  t5 := Tryz.underlying5
  a5 := Tryz.isAgg5
  z5 := Tryz.sizeOf5
  v5 := Tryz.zeroValue5
  t116 := Tryz.underlying132
  a116 := Tryz.isAgg132
  z116 := Tryz.sizeOf132
  t124 := Tryz.underlying136
  a124 := Tryz.isAgg136
  z124 := Tryz.sizeOf136
  v124 := Tryz.zeroValue136 }
open Go.RowKit Go.Lib in
/-- '(as *asciiSet) contains(c)': 'as[c]': the set lies at block b, whole. (LAID: no walk: one application.) -/
theorem Tryz.asciiSet_contains (b : Nat) (x : UInt8) (v : Bool) (w : World) (hc : w.cell? ⟨b, x.toNat, none⟩ = some (.bool v)) :
    Calls Tryz.prog 79 #[.pointer (some ⟨b, 0, none⟩), .int .u8 x.toNat] w fun e w' => e = .returned (.bool v) ∧ w' = w := Any.asciiSet_contains Tryz.lays228 b x v w hc
def Tryz.lays264_ren : Go.Shelf.Ren := ⟨fun | 264 => 96 | n => n, fun | 53 => 71 | 46 => 154 | n => n, fun | n => n⟩
theorem Tryz.lays264 : Go.Proofs.Lays.n264 Tryz.prog Tryz.lays264_ren := {
  mixed := by kernel_rfl
  f264 := Tryz.func96.trans (congrArg some (by kernel_rfl))
  t46 := Tryz.underlying154
  a46 := Tryz.isAgg154
  z46 := Tryz.sizeOf154
  v46 := Tryz.zeroValue154
  t53 := Tryz.underlying71
  a53 := Tryz.isAgg71
  z53 := Tryz.sizeOf71
  v53 := Tryz.zeroValue71 }
open Go.RowKit Go.Lib in
theorem Tryz.bits_Mul64 (x y : Nat) (hx : x < 18446744073709551616) (hy : y < 18446744073709551616) (w : World) :
    Calls Tryz.prog 96 #[.int .u64 x, .int .u64 y] w fun e w' => e = .returned (.tuple #[.int .u64 ((x * y / 18446744073709551616 : Nat) : Int), .int .u64 ((x * y % 18446744073709551616 : Nat) : Int)]) ∧ w' = w := Any.bits_Mul64 Tryz.lays264 x y hx hy w
def Tryz.lays212_ren : Go.Shelf.Ren := ⟨fun | 212 => 113 | 263 => 124 | 264 => 96 | n => n, fun | 46 => 154 | 51 => 151 | 146 => 179 | 53 => 71 | 148 => 163 | n => n, fun | n => n⟩
theorem Tryz.lays212 : Go.Proofs.Lays.n212 Tryz.prog Tryz.lays212_ren := {
  mixed := by kernel_rfl
  f212 := Tryz.func113.trans (congrArg some (by kernel_rfl))
  f263 := Tryz.func124.trans (congrArg some (by kernel_rfl))
  f264 := Tryz.func96.trans (congrArg some (by kernel_rfl))
  t46 := Tryz.underlying154
  a46 := Tryz.isAgg154
  z46 := Tryz.sizeOf154
  v46 := Tryz.zeroValue154
  t51 := Tryz.underlying151
  a51 := Tryz.isAgg151
  z51 := Tryz.sizeOf151
  v51 := Tryz.zeroValue151
  t53 := Tryz.underlying71
  a53 := Tryz.isAgg71
  z53 := Tryz.sizeOf71
  v53 := Tryz.zeroValue71
  t146 := Tryz.underlying179
  a146 := Tryz.isAgg179
  z146 := Tryz.sizeOf179
  v146 := Tryz.zeroValue179
  t148 := Tryz.underlying163
  a148 := Tryz.isAgg163
  z148 := Tryz.sizeOf163
  v148 := Tryz.zeroValue163 }
open Go.RowKit Go.Lib in
/-- math/bits.Mul: "Mul returns the full-width product of x and y": on a machine of 64 bits: Mul64's. (LAID: no walk: one application.) -/
theorem Tryz.bits_Mul (x y : Nat) (hx : x < 18446744073709551616) (hy : y < 18446744073709551616) (w : World) :
    Calls Tryz.prog 113 #[.int .u64 x, .int .u64 y] w fun e w' => e = .returned (.tuple #[.int .u64 ((x * y / 18446744073709551616 : Nat) : Int), .int .u64 ((x * y % 18446744073709551616 : Nat) : Int)]) ∧ w' = w := Any.bits_Mul Tryz.lays212 x y hx hy w
def Tryz.lays105_ren : Go.Shelf.Ren := ⟨fun | 105 => 100 | 212 => 113 | 99 => 114 | 165 => 115 | 166 => 116 | 170 => 117 | 169 => 118 | 263 => 124 | 264 => 96 | 206 => 107 | 240 => 125 | 241 => 126 | 276 => 127 | 277 => 128 | n => n, fun | 9 => 9 | 3 => 3 | 4 => 4 | 20 => 20 | 0 => 0 | 46 => 154 | 109 => 184 | 5 => 5 | 72 => 188 | 76 => 190 | 51 => 151 | 146 => 179 | 53 => 71 | 148 => 163 | 70 => 186 | 37 => 53 | 75 => 27 | 127 => 197 | 164 => 94 | 80 => 37 | n => n, fun | n => n⟩
theorem Tryz.lays105 : Go.Proofs.Lays.n105 Tryz.prog Tryz.lays105_ren := {
  mixed := by kernel_rfl
  f99 := Tryz.func114.trans (congrArg some (by kernel_rfl))
  f105 := Tryz.func100.trans (congrArg some (by kernel_rfl))
  f165 := Tryz.func115.trans (congrArg some (by kernel_rfl))
  f166 := Tryz.func116.trans (congrArg some (by kernel_rfl))
  f169 := Tryz.func118.trans (congrArg some (by kernel_rfl))
  f170 := Tryz.func117.trans (congrArg some (by kernel_rfl))
  f206 := Tryz.func107.trans (congrArg some (by kernel_rfl))
  f212 := Tryz.func113.trans (congrArg some (by kernel_rfl))
  f240 := Tryz.func125.trans (congrArg some (by kernel_rfl))
  f241 := Tryz.func126.trans (congrArg some (by kernel_rfl))
  f263 := Tryz.func124.trans (congrArg some (by kernel_rfl))
  f264 := Tryz.func96.trans (congrArg some (by kernel_rfl))
  f276 := Tryz.func127.trans (congrArg some (by kernel_rfl))
  f277 := Tryz.func128.trans (congrArg some (by kernel_rfl))
  t0 := Tryz.underlying0
  a0 := Tryz.isAgg0
  z0 := Tryz.sizeOf0
  v0 := Tryz.zeroValue0
  t3 := Tryz.underlying3
  a3 := Tryz.isAgg3
  z3 := Tryz.sizeOf3
  v3 := Tryz.zeroValue3
  t4 := Tryz.underlying4
  a4 := Tryz.isAgg4
  z4 := Tryz.sizeOf4
  v4 := Tryz.zeroValue4
  t5 := Tryz.underlying5
  a5 := Tryz.isAgg5
  z5 := Tryz.sizeOf5
  v5 := Tryz.zeroValue5
  t9 := Tryz.underlying9
  a9 := Tryz.isAgg9
  z9 := Tryz.sizeOf9
  v9 := Tryz.zeroValue9
  t20 := Tryz.underlying20
  a20 := Tryz.isAgg20
  z20 := Tryz.sizeOf20
  v20 := Tryz.zeroValue20
  t37 := Tryz.underlying53
  a37 := Tryz.isAgg53
  z37 := Tryz.sizeOf53
  v37 := Tryz.zeroValue53
  t46 := Tryz.underlying154
  a46 := Tryz.isAgg154
  z46 := Tryz.sizeOf154
  v46 := Tryz.zeroValue154
  t51 := Tryz.underlying151
  a51 := Tryz.isAgg151
  z51 := Tryz.sizeOf151
  v51 := Tryz.zeroValue151
  t53 := Tryz.underlying71
  a53 := Tryz.isAgg71
  z53 := Tryz.sizeOf71
  v53 := Tryz.zeroValue71
  t70 := Tryz.underlying186
  a70 := Tryz.isAgg186
  z70 := Tryz.sizeOf186
  v70 := Tryz.zeroValue186
  t72 := Tryz.underlying188
  a72 := Tryz.isAgg188
  z72 := Tryz.sizeOf188
  v72 := Tryz.zeroValue188
  t75 := Tryz.underlying27
  a75 := Tryz.isAgg27
  z75 := Tryz.sizeOf27
  v75 := Tryz.zeroValue27
  t76 := Tryz.underlying190
  a76 := Tryz.isAgg190
  z76 := Tryz.sizeOf190
  v76 := Tryz.zeroValue190
  t109 := Tryz.underlying184
  a109 := Tryz.isAgg184
  z109 := Tryz.sizeOf184
  v109 := Tryz.zeroValue184
  t127 := Tryz.underlying197
  a127 := Tryz.isAgg197
  z127 := Tryz.sizeOf197
  v127 := Tryz.zeroValue197
  t146 := Tryz.underlying179
  a146 := Tryz.isAgg179
  z146 := Tryz.sizeOf179
  v146 := Tryz.zeroValue179
  t148 := Tryz.underlying163
  a148 := Tryz.isAgg163
  z148 := Tryz.sizeOf163
  v148 := Tryz.zeroValue163
  t164 := Tryz.underlying94
  a164 := Tryz.isAgg94
  z164 := Tryz.sizeOf94
  v164 := Tryz.zeroValue94 }
theorem Tryz.Builder_Extra_105 : Builder.Extra Tryz.prog Tryz.lays105_ren := {
  sizeBuilder := by kernel_rfl
  liesBuilder := by kernel_rfl
  t5 := Tryz.underlying5
  a5 := Tryz.isAgg5
  z5 := Tryz.sizeOf5
  v5 := Tryz.zeroValue5
  infoByte := by kernel_rfl
  cellsByte := by kernel_rfl
  sizeByte := by kernel_rfl
  neB5 := by decide }
open Go.RowKit Go.Lib in
/-- THE MAIN CASE: at least two copies of a string that is not empty. (LAID: no walk: one application.) -/
theorem Tryz.strings_Repeat_main (s : ByteArray) (c : Nat) (w : World) (hc2 : 2 ≤ c) (hc : c ≤ 9223372036854775807) (hlen : s.size * c ≤ 140737488355328) (h0 : 0 < s.size) :
    Calls Tryz.prog 100 #[.string s, .int .i64 c] w fun e w' => e = .returned (.string ⟨(Lib.repeatL s.data.toList c).toArray⟩) ∧ Below w.heap.size w w' := Any.strings_Repeat_main Tryz.lays105 Tryz.Builder_Extra_105 s c w hc2 hc hlen h0
open Go.RowKit Go.Lib in
theorem Tryz.strings_Repeat_zero (s : ByteArray) (w : World) :
    Calls Tryz.prog 100 #[.string s, .int .i64 0] w fun e w' => e = .returned (.string ⟨#[]⟩) ∧ w' = w := Any.strings_Repeat_zero Tryz.lays105 s w
open Go.RowKit Go.Lib in
theorem Tryz.strings_Repeat_one (s : ByteArray) (w : World) :
    Calls Tryz.prog 100 #[.string s, .int .i64 1] w fun e w' => e = .returned (.string s) ∧ w' = w := Any.strings_Repeat_one Tryz.lays105 s w
open Go.RowKit Go.Lib in
/-- Copies of the empty string. (LAID: no walk: one application.) -/
theorem Tryz.strings_Repeat_empty (s : ByteArray) (c : Nat) (w : World) (hc2 : 2 ≤ c) (hc : c ≤ 9223372036854775807) (h0 : s.size = 0) :
    Calls Tryz.prog 100 #[.string s, .int .i64 c] w fun e w' => e = .returned (.string ⟨#[]⟩) ∧ w' = w := Any.strings_Repeat_empty Tryz.lays105 s c w hc2 hc h0
open Go.RowKit Go.Lib in
/-- count < 0: "It panics if count is negative". (LAID: no walk: one application.) -/
theorem Tryz.strings_Repeat_negative (s : ByteArray) (c : Int) (w : World) (hc : c < 0) :
    Calls Tryz.prog 100 #[.string s, .int .i64 c] w fun e w' => e = .panicked [{ v := repeatPanic Tryz.lays105_ren "strings: negative Repeat count", recovered := false }] ∧ w' = w := Any.strings_Repeat_negative Tryz.lays105 s c w hc
open Go.RowKit Go.Lib in
/-- len(s) * count is no int: ".. or if the result of (len(s) * count) overflows". (LAID: no walk: one application.) -/
theorem Tryz.strings_Repeat_overflow (s : ByteArray) (c : Nat) (w : World) (hc : c ≤ 9223372036854775807) (hs : s.size ≤ 9223372036854775807) (hbig : 9223372036854775807 < s.size * c) :
    Calls Tryz.prog 100 #[.string s, .int .i64 c] w fun e w' => e = .panicked [{ v := repeatPanic Tryz.lays105_ren "strings: Repeat output length overflow", recovered := false }] ∧ w' = w := Any.strings_Repeat_overflow Tryz.lays105 s c w hc hs hbig
open Go.RowKit Go.Lib in
/-- **strings.Repeat: count ≥ 0, the result within one allocation: count copies of s.** (LAID: no walk: one application.) -/
theorem Tryz.strings_Repeat (s : ByteArray) (c : Nat) (w : World) (hc : c ≤ 9223372036854775807) (hlen : s.size * c ≤ 140737488355328) :
    Calls Tryz.prog 100 #[.string s, .int .i64 c] w fun e w' => e = .returned (.string ⟨(Lib.repeatL s.data.toList c).toArray⟩) ∧ Below w.heap.size w w' := Any.strings_Repeat Tryz.lays105 Tryz.Builder_Extra_105 s c w hc hlen
def Tryz.lays260_ren : Go.Shelf.Ren := ⟨fun | 260 => 87 | n => n, fun | 9 => 9 | 21 => 21 | 3 => 3 | 4 => 4 | 5 => 5 | 119 => 175 | 0 => 0 | 46 => 154 | 139 => 178 | 138 => 177 | n => n, fun | 3 => 3 | 4 => 4 | n => n⟩
theorem Tryz.lays260 : Go.Proofs.Lays.n260 Tryz.prog Tryz.lays260_ren := {
  mixed := by kernel_rfl
  f260 := Tryz.func87.trans (congrArg some (by kernel_rfl))
  t0 := Tryz.underlying0
  a0 := Tryz.isAgg0
  z0 := Tryz.sizeOf0
  v0 := Tryz.zeroValue0
  t3 := Tryz.underlying3
  a3 := Tryz.isAgg3
  z3 := Tryz.sizeOf3
  v3 := Tryz.zeroValue3
  t4 := Tryz.underlying4
  a4 := Tryz.isAgg4
  z4 := Tryz.sizeOf4
  v4 := Tryz.zeroValue4
  t5 := Tryz.underlying5
  a5 := Tryz.isAgg5
  z5 := Tryz.sizeOf5
  v5 := Tryz.zeroValue5
  t9 := Tryz.underlying9
  a9 := Tryz.isAgg9
  z9 := Tryz.sizeOf9
  v9 := Tryz.zeroValue9
  t21 := Tryz.underlying21
  a21 := Tryz.isAgg21
  z21 := Tryz.sizeOf21
  v21 := Tryz.zeroValue21
  t46 := Tryz.underlying154
  a46 := Tryz.isAgg154
  z46 := Tryz.sizeOf154
  v46 := Tryz.zeroValue154
  t119 := Tryz.underlying175
  a119 := Tryz.isAgg175
  z119 := Tryz.sizeOf175
  t138 := Tryz.underlying177
  a138 := Tryz.isAgg177
  z138 := Tryz.sizeOf177
  v138 := Tryz.zeroValue177
  t139 := Tryz.underlying178
  a139 := Tryz.isAgg178
  z139 := Tryz.sizeOf178
  v139 := Tryz.zeroValue178
  g3 := by kernel_rfl
  g4 := by kernel_rfl }
open Go.RowKit Go.Lib in
theorem Tryz.utf8_decodeRuneInStringSlow (s : ByteArray) (w : World) (hT : Lib.Utf8Tabs 3 4 w) :
    Calls Tryz.prog 87 #[.string s] w fun e w' => e = .returned (.tuple #[.int .i32 (Lib.decodeGo s).1, .int .i64 (Lib.decodeGo s).2]) ∧ Below w.heap.size w w' := Any.utf8_decodeRuneInStringSlow Tryz.lays260 s w hT
def Tryz.lays197_ren : Go.Shelf.Ren := ⟨fun | 197 => 70 | 260 => 87 | n => n, fun | 9 => 9 | 21 => 21 | 3 => 3 | 4 => 4 | 5 => 5 | 105 => 144 | 119 => 175 | 0 => 0 | 46 => 154 | 139 => 178 | 138 => 177 | n => n, fun | 3 => 3 | 4 => 4 | n => n⟩
theorem Tryz.lays197 : Go.Proofs.Lays.n197 Tryz.prog Tryz.lays197_ren := {
  mixed := by kernel_rfl
  f197 := Tryz.func70.trans (congrArg some (by kernel_rfl))
  f260 := Tryz.func87.trans (congrArg some (by kernel_rfl))
  t0 := Tryz.underlying0
  a0 := Tryz.isAgg0
  z0 := Tryz.sizeOf0
  v0 := Tryz.zeroValue0
  t3 := Tryz.underlying3
  a3 := Tryz.isAgg3
  z3 := Tryz.sizeOf3
  v3 := Tryz.zeroValue3
  t4 := Tryz.underlying4
  a4 := Tryz.isAgg4
  z4 := Tryz.sizeOf4
  v4 := Tryz.zeroValue4
  t5 := Tryz.underlying5
  a5 := Tryz.isAgg5
  z5 := Tryz.sizeOf5
  v5 := Tryz.zeroValue5
  t9 := Tryz.underlying9
  a9 := Tryz.isAgg9
  z9 := Tryz.sizeOf9
  v9 := Tryz.zeroValue9
  t21 := Tryz.underlying21
  a21 := Tryz.isAgg21
  z21 := Tryz.sizeOf21
  v21 := Tryz.zeroValue21
  t46 := Tryz.underlying154
  a46 := Tryz.isAgg154
  z46 := Tryz.sizeOf154
  v46 := Tryz.zeroValue154
  t105 := Tryz.underlying144
  a105 := Tryz.isAgg144
  z105 := Tryz.sizeOf144
  v105 := Tryz.zeroValue144
  t119 := Tryz.underlying175
  a119 := Tryz.isAgg175
  z119 := Tryz.sizeOf175
  t138 := Tryz.underlying177
  a138 := Tryz.isAgg177
  z138 := Tryz.sizeOf177
  v138 := Tryz.zeroValue177
  t139 := Tryz.underlying178
  a139 := Tryz.isAgg178
  z139 := Tryz.sizeOf178
  v139 := Tryz.zeroValue178
  g3 := by kernel_rfl
  g4 := by kernel_rfl }
open Go.RowKit Go.Lib in
/-- **unicode/utf8.DecodeRuneInString AT EVERY STRING.** (LAID: no walk: one application.) -/
theorem Tryz.utf8_DecodeRuneInString (s : ByteArray) (w : World) (hT : Lib.Utf8Tabs 3 4 w) :
    Calls Tryz.prog 70 #[.string s] w fun e w' => e = .returned (.tuple #[.int .i32 (Lib.decodeGo s).1, .int .i64 (Lib.decodeGo s).2]) ∧ Below w.heap.size w w' := Any.utf8_DecodeRuneInString Tryz.lays197 s w hT
def Tryz.lays193_ren : Go.Shelf.Ren := ⟨fun | 193 => 14 | n => n, fun | 31 => 23 | 9 => 9 | 4 => 4 | 3 => 3 | 0 => 0 | n => n, fun | n => n⟩
theorem Tryz.lays193 : Go.Proofs.Lays.n193 Tryz.prog Tryz.lays193_ren := {
  mixed := by kernel_rfl
  f193 := Tryz.func14.trans (congrArg some (by kernel_rfl))
  t0 := Tryz.underlying0
  a0 := Tryz.isAgg0
  z0 := Tryz.sizeOf0
  v0 := Tryz.zeroValue0
  t3 := Tryz.underlying3
  a3 := Tryz.isAgg3
  z3 := Tryz.sizeOf3
  v3 := Tryz.zeroValue3
  t4 := Tryz.underlying4
  a4 := Tryz.isAgg4
  z4 := Tryz.sizeOf4
  v4 := Tryz.zeroValue4
  t9 := Tryz.underlying9
  a9 := Tryz.isAgg9
  z9 := Tryz.sizeOf9
  v9 := Tryz.zeroValue9
  t31 := Tryz.underlying23
  a31 := Tryz.isAgg23
  z31 := Tryz.sizeOf23
  v31 := Tryz.zeroValue23 }
open Go.RowKit Go.Lib in
/-- slices.Equal at []string: "Equal reports whether two slices are equal: the same length and all elements equal. If the lengths are different, Equal returns false. Otherwise, the elements are compared in increasing index order, and the comparison stops at the first unequal pair. Empty and nil slices are considered equal.": IT RETURNS WHETHER THE TWO LISTS OF ELEMENTS ARE ONE; the world is as it was but for the count of draws (the test 's1[i] != s2[i]' has two reads, whose order the model draws, once a round). 'xs', 'ys': what the cells behind the two addresses hold (the spare capacity too, if you have it); 'xs.take n', 'ys.take m': the elements. THE TWO SLICES MAY OVERLAP. (LAID: no walk: one application.) -/
theorem Tryz.slices_Equal_string (b1 o1 n c b2 o2 m d : Nat) (xs ys : List ByteArray) (w : World) (hx : n ≤ xs.length) (hy : m ≤ ys.length) (hbig : n ≤ 9223372036854775807) (hbig2 : m ≤ 9223372036854775807) (hc1 : ∀ j, j < xs.length → w.cell? ⟨b1, o1 + j, none⟩ = some (.string (xs.getD j ByteArray.empty))) (hc2 : ∀ j, j < ys.length → w.cell? ⟨b2, o2 + j, none⟩ = some (.string (ys.getD j ByteArray.empty))) :
    Calls Tryz.prog 14 #[.slice (some ⟨b1, o1, none⟩) n c, .slice (some ⟨b2, o2, none⟩) m d] w fun e w' => e = .returned (.bool (decide (xs.take n = ys.take m))) ∧ ∃ q, w' = w.drewN q := Any.slices_Equal_string Tryz.lays193 b1 o1 n c b2 o2 m d xs ys w hx hy hbig hbig2 hc1 hc2
open Go.RowKit Go.Lib in
/-- The same where the first is of length 0 (a nil one too): no cell is asked for. (LAID: no walk: one application.) -/
theorem Tryz.slices_Equal_string_empty (a1 a2 : Option Addr) (c m d : Nat) (w : World) (hbig2 : m ≤ 9223372036854775807) :
    Calls Tryz.prog 14 #[.slice a1 0 c, .slice a2 m d] w fun e w' => e = .returned (.bool (decide (m = 0))) ∧ w' = w := Any.slices_Equal_string_empty Tryz.lays193 a1 a2 c m d w hbig2
open Go.RowKit Go.Lib in
theorem Tryz.slices_Equal_string_lens (a1 a2 : Option Addr) (n c m d : Nat) (w : World) (hnm : n ≠ m) :
    Calls Tryz.prog 14 #[.slice a1 n c, .slice a2 m d] w fun e w' => e = .returned (.bool false) ∧ w' = w := Any.slices_Equal_string_lens Tryz.lays193 a1 a2 n c m d w hnm
end Go.Proofs


/-
  Contracts of package wide: Neg, Abs, Cmp, Half, magnitude, signer.
-/


namespace Go.Proofs.YtidkpdabidlnnaaGreatDoor

set_option maxRecDepth 100000

open Go.RowKit

/-- The two contracts by numbers. -/
theorem add_n {n m : Int} (hn : InR n) (hm : InR m) (w : World) :
    Calls Tryz.prog 75 #[.agg #[.int .i64 (hi n), .int .u64 (lo n)], .agg #[.int .i64 (hi m), .int .u64 (lo m)]] w fun e w' =>
      e = .returned (.agg #[.int .i64 (hi (clamp (n + m))), .int .u64 (lo (clamp (n + m)))]) ∧ Below w.heap.size w w' := by
  have := add_any (hi n) (lo n) (hi m) (lo m) (lo_bd n).1 (lo_bd n).2 (lo_bd m).1 (lo_bd m).2 (hi_bd hn).1 (hi_bd hn).2 (hi_bd hm).1 (hi_bd hm).2 w
  rwa [hilo, hilo] at this
theorem sub_n {n m : Int} (hn : InR n) (hm : InR m) (w : World) :
    Calls Tryz.prog 121 #[.agg #[.int .i64 (hi n), .int .u64 (lo n)], .agg #[.int .i64 (hi m), .int .u64 (lo m)]] w fun e w' =>
      e = .returned (.agg #[.int .i64 (hi (clamp (n - m))), .int .u64 (lo (clamp (n - m)))]) ∧ Below w.heap.size w w' := by
  have := sub_any (hi n) (lo n) (hi m) (lo m) (lo_bd n).1 (lo_bd n).2 (lo_bd m).1 (lo_bd m).2 (hi_bd hn).1 (hi_bd hn).2 (hi_bd hm).1 (hi_bd hm).2 w
  rwa [hilo, hilo] at this

set_option maxHeartbeats 1000000 in
theorem neg_any (h l : Int) (a0 : 0 ≤ l) (a1 : l ≤ 18446744073709551615) (c0 : -9223372036854775808 ≤ h) (c1 : h ≤ 9223372036854775807) (w : World) :
    Calls Tryz.prog 110 #[.agg #[.int .i64 h, .int .u64 l]] w fun e w' =>
      e = .returned (.agg #[.int .i64 (hi (clamp (-(h * 18446744073709551616 + l)))), .int .u64 (lo (clamp (-(h * 18446744073709551616 + l))))]) ∧ Below w.heap.size w w' := by
  have hsub := fun w => sub_any 0 0 h l (by omega) (by omega) a0 a1 (by omega) (by omega) c0 c1 w
  rw [show (0 : Int) * 18446744073709551616 + 0 - (h * 18446744073709551616 + l) = -(h * 18446744073709551616 + l) from by omega] at hsub
  generalize hr : clamp (-(h * 18446744073709551616 + l)) = r at *
  have q1 := fun (w' : World) (h : Blk w' (w.heap.size + 1) #[.int .i64 0, .int .u64 0] 125) => h.two
  have q2 := fun (w' : World) (h : Blk w' (w.heap.size + 1) #[.int .i64 0, .int .u64 0] 125) => h.free0
  have HS := Lib.hid hsub; clear hsub hr
  go_enter Tryz.func110, Tryz.ntmps110
  go_wp2_with (go_at_call 121; refine (HS.out _).mono ?_; rintro e w' ⟨rfl, hb⟩; have g := Blk.keep hb (Blk.new (b := w.heap.size + 1) (T := 125) (by simp)); have g4 := (((Below.refl w.heap.size w).alloc (Nat.le_refl _) _).alloc (by simp) _).trans (hb.mono (by simp; omega)))
  have hfin := (g.put (i := 0) (.int .i64 (hi r))).put (i := 1) (.int .u64 (lo r))
  exact bodyPost_ret (v := .agg #[.int .i64 (hi r), .int .u64 (lo r)]) (by simp [results, Tryz.results110, go_sem, (show Blk _ _ #[.int .i64 (hi r), .int .u64 (lo r)] _ from hfin).two]) rfl ⟨rfl, (g4.setCell (by simp) _).setCell (by simp) _⟩

theorem or_u64 {a b p : Int} (k : Nat) (hp : p = ((2 ^ k : Nat) : Int)) (ha : a % p = 0) (a0 : 0 ≤ a) (a1 : a ≤ 18446744073709551615) (b0 : 0 ≤ b) (b1 : b < p) (hb : b ≤ 18446744073709551615) :
    bits .or .u64 a b = a + b := by
  obtain ⟨x, rfl⟩ := Int.eq_ofNat_of_zero_le a0
  obtain ⟨y, rfl⟩ := Int.eq_ofNat_of_zero_le b0
  subst hp
  rw [bits_or_u64_nat x y (by omega) (by omega)]
  have hx : x % 2 ^ k = 0 := by exact_mod_cast ha
  have hy : y < 2 ^ k := by exact_mod_cast b1
  have hd : 2 ^ k * (x / 2 ^ k) = x := Nat.mul_div_cancel' (Nat.dvd_of_mod_eq_zero hx)
  have := Nat.two_pow_add_eq_or_of_lt hy (x / 2 ^ k)
  rw [hd] at this
  rw [← this]; push_cast; rfl

/-- The size of a number. -/
def sz (n : Int) : Int := if n < 0 then -n else n
theorem sz_pos {n : Int} (h : 0 ≤ n) : sz n = n := by unfold sz; rw [if_neg (by omega)]
theorem sz_neg {n : Int} (h : n < 0) : sz n = -n := by unfold sz; rw [if_pos h]
theorem sz_bd {n : Int} (h : InR n) : 0 ≤ sz n ∧ sz n ≤ 170141183460469231731687303715884105728 := by unfold InR at h; unfold sz; split <;> omega

set_option maxHeartbeats 1000000 in
theorem magnitude_pos {h : Int} (l : Int) (c1 : h ≤ 9223372036854775807) (hn : ¬ h < 0) (w : World) :
    Calls Tryz.prog 95 #[.agg #[.int .i64 h, .int .u64 l]] w fun e w' =>
      e = .returned (.tuple #[.int .u64 h, .int .u64 l]) ∧ Below w.heap.size w w' := by
  have e1 : IntKind.u64.wrap h = h := by rw [IntKind.wrap_u64]; omega
  have q1 := fun (w' : World) (h : Blk w' (w.heap.size) #[.int .i64 h, .int .u64 l] 125) => h.two
  go_enter Tryz.func95, Tryz.ntmps95
  go_wp2_with (go_at_call 78; refine (negative_no _ hn _).mono ?_; rintro e w' ⟨rfl, hb⟩; have g := Blk.keep hb (Blk.new (b := w.heap.size) (T := 125) rfl); have g4 := ((Below.refl w.heap.size w).alloc (Nat.le_refl _) _).trans (hb.mono (by simp)))
  refine wp_region_held_drew (S := (fun w' => Blk w' w.heap.size #[.int .i64 h, .int .u64 l] 125)) (by kernel_rfl) ?_ (fun hHeld => ?_)
  · exact g.drew
  refine H.take 0 (v := ?_) rfl (by kernel_rfl) (fun _ _ _ h => h) (by rfl) ?_ (by assumption) ?_
  rotate_left
  · (intro wz hSw; (try dsimp only at hSw); go_simp <;> with_reducible rfl)
  try simp only [Act.put, List.setIfInBounds_toArray, List.set_cons_zero, List.set_cons_succ]
  refine H.take 1 (v := ?_) rfl (by kernel_rfl) (fun _ _ _ h => h) (by rfl) ?_ (by assumption) ?_
  rotate_left
  · (intro wz hSw; (try dsimp only at hSw); go_simp <;> with_reducible rfl)
  try simp only [Act.put, List.setIfInBounds_toArray, List.set_cons_zero, List.set_cons_succ]
  refine H.take 2 (v := ?_) rfl (by kernel_rfl) (fun _ _ _ h => h) (by rfl) ?_ (by assumption) ?_
  rotate_left
  · (intro wz hSw; (try dsimp only at hSw); go_simp <;> with_reducible rfl)
  try simp only [Act.put, List.setIfInBounds_toArray, List.set_cons_zero, List.set_cons_succ]
  refine H.take 3 (v := ?_) rfl (by kernel_rfl) (fun _ _ _ h => h) (by rfl) ?_ (by assumption) ?_
  rotate_left
  · (intro wz hSw; (try dsimp only at hSw); go_simp <;> with_reducible rfl)
  try simp only [Act.put, List.setIfInBounds_toArray, List.set_cons_zero, List.set_cons_succ]
  refine H.take 4 (v := ?_) rfl (by kernel_rfl) (fun _ _ _ h => h) (by rfl) ?_ (by assumption) ?_
  rotate_left
  · (intro wz hSw; (try dsimp only at hSw); go_simp <;> with_reducible rfl)
  try simp only [Act.put, List.setIfInBounds_toArray, List.set_cons_zero, List.set_cons_succ]
  refine H.take 5 (v := ?_) rfl (by kernel_rfl) (fun _ _ _ h => h) (by rfl) ?_ (by assumption) ?_
  rotate_left
  · (intro wz hSw; (try dsimp only at hSw); go_simp <;> with_reducible rfl)
  try simp only [Act.put, List.setIfInBounds_toArray, List.set_cons_zero, List.set_cons_succ]
  refine H.take 6 (v := ?_) rfl (by kernel_rfl) (fun _ _ _ h => h) (by rfl) ?_ (by assumption) ?_
  rotate_left
  · (intro wz hSw; (try dsimp only at hSw); go_simp <;> with_reducible rfl)
  try simp only [Act.put, List.setIfInBounds_toArray, List.set_cons_zero, List.set_cons_succ]
  refine H.done (by kernel_rfl) ?_ _
  go_wp2
  go_ret2
  exact ⟨rfl, g4.drew⟩
/-- Sub64 with a borrow. -/
theorem run_sub64b (x y b c : Int) (hx : 0 ≤ x) (hy : 0 ≤ y) (hb0 : 0 ≤ b) (hb1 : b ≤ 1) (hx1 : x ≤ 18446744073709551615) (hy1 : y ≤ 18446744073709551615) (hc : c = if x < y + b then 1 else 0) (w : World) :
    (callFunc 108 #[.int .u64 x, .int .u64 y, .int .u64 b]).run Tryz.prog w =
      .ok (.value (.tuple #[.int .u64 ((x + 18446744073709551616 - y - b) % 18446744073709551616), .int .u64 c])) w := by
  obtain ⟨x, rfl⟩ := Int.eq_ofNat_of_zero_le hx
  obtain ⟨y, rfl⟩ := Int.eq_ofNat_of_zero_le hy
  obtain ⟨b, rfl⟩ := Int.eq_ofNat_of_zero_le hb0
  rw [run_callFunc_extern Tryz.func108 (by kernel_rfl) (by kernel_rfl) (by kernel_rfl) (e := Go.Proofs.sub64Entry) (by kernel_rfl), Go.Proofs.run_sub64 x y b (by omega)]
  simp only [Result.andThen]
  have e1 : (((x + 18446744073709551616 - y - b) % 18446744073709551616 : Nat) : Int) = ((x : Int) + 18446744073709551616 - y - b) % 18446744073709551616 := by omega
  have e2 : ((if x < y + b then 1 else 0 : Nat) : Int) = c := by
    rw [hc]; by_cases h : x < y + b
    · rw [if_pos (by omega), if_pos (by omega)]; rfl
    · rw [if_neg (by omega), if_neg (by omega)]; rfl
  rw [e1, e2]

set_option maxHeartbeats 1000000 in
theorem magnitude_neg {h l : Int} (a0 : 0 ≤ l) (a1 : l ≤ 18446744073709551615) (c0 : -9223372036854775808 ≤ h) (hn : h < 0) (w : World) :
    Calls Tryz.prog 95 #[.agg #[.int .i64 h, .int .u64 l]] w fun e w' =>
      e = .returned (.tuple #[.int .u64 (hi (-(h * 18446744073709551616 + l))), .int .u64 (lo (-(h * 18446744073709551616 + l)))]) ∧ Below w.heap.size w w' := by
  obtain ⟨b, hb0⟩ : ∃ b : Int, b = if 0 < l then 1 else 0 := ⟨_, rfl⟩
  obtain ⟨b2, hb3⟩ : ∃ b2 : Int, b2 = if 0 < h + 18446744073709551616 + b then 1 else 0 := ⟨_, rfl⟩
  have b0 : 0 ≤ b := by split at hb0 <;> omega
  have b1 : b ≤ 1 := by split at hb0 <;> omega
  have hs1 := fun w => run_sub64 0 l b (by omega) a0 (by omega) a1 hb0 w
  have hs2 := fun w => run_sub64b 0 (h + 18446744073709551616) b b2 (by omega) (by omega) b0 b1 (by omega) (by omega) hb3 w
  have e0 : IntKind.u64.wrap h = h + 18446744073709551616 := by rw [IntKind.wrap_u64]; omega
  have e1 : (0 + 18446744073709551616 - (h + 18446744073709551616) - b) % 18446744073709551616 = hi (-(h * 18446744073709551616 + l)) := by
    unfold hi; split at hb0 <;> omega
  have e2 : (0 + 18446744073709551616 - l) % 18446744073709551616 = lo (-(h * 18446744073709551616 + l)) := by
    unfold lo; omega
  rw [e2] at hs1; rw [e1] at hs2
  clear e1 e2 hb0 hb3
  generalize hi (-(h * 18446744073709551616 + l)) = X at *
  generalize lo (-(h * 18446744073709551616 + l)) = Y at *
  have q1 := fun (w' : World) (h : Blk w' (w.heap.size) #[.int .i64 h, .int .u64 l] 125) => h.two
  go_enter Tryz.func95, Tryz.ntmps95
  go_wp2_with (go_at_call 78; refine (negative_yes _ hn _).mono ?_; rintro e w' ⟨rfl, hb⟩; have g := Blk.keep hb (Blk.new (b := w.heap.size) (T := 125) rfl); have g4 := ((Below.refl w.heap.size w).alloc (Nat.le_refl _) _).trans (hb.mono (by simp)))
  go_ret2
  exact ⟨rfl, g4⟩
theorem magnitude_n {n : Int} (hn : InR n) (w : World) :
    Calls Tryz.prog 95 #[.agg #[.int .i64 (hi n), .int .u64 (lo n)]] w fun e w' =>
      e = .returned (.tuple #[.int .u64 (hi (sz n)), .int .u64 (lo (sz n))]) ∧ Below w.heap.size w w' := by
  by_cases h : n < 0
  · have := magnitude_neg (lo_bd n).1 (lo_bd n).2 (hi_bd hn).1 ((hi_neg n).2 h) w
    rwa [hilo, ← sz_neg h] at this
  · have := magnitude_pos (lo n) (hi_bd hn).2 (fun k => h ((hi_neg n).1 k)) w
    rwa [sz_pos (by omega)]

set_option maxHeartbeats 1000000 in
theorem signer_any (m : Bool) (w : World) :
    Calls Tryz.prog 97 #[.bool m] w fun e w' => e = .returned (.func (.func 109) #[] #[.pointer (some ⟨w.heap.size, 0, none⟩)]) ∧ w' = w.alloc (.cells #[.bool m] 4) := by
  go_enter Tryz.func97, Tryz.ntmps97
  have hmf : ∀ (fn : Fn) (first cap : Array Value) (w : World), (Instr.makeFunc fn first cap).run Tryz.prog w = .ok (.func fn first cap) w := fun _ _ _ _ => rfl
  go_wp2
  go_ret
  exact ⟨rfl, rfl⟩

/-- With its sign. -/
def sgn (m : Bool) (u : Int) : Int := if m then -u else u
set_option maxHeartbeats 1000000 in
theorem signed_any (m : Bool) {x y : Int} (x0 : 0 ≤ x) (x1 : x ≤ 18446744073709551615) (y0 : 0 ≤ y) (y1 : y ≤ 18446744073709551615) {b : Nat} {w : World} (g : Blk w b #[.bool m] 4) :
    Calls Tryz.prog 109 #[.int .u64 x, .int .u64 y, .pointer (some ⟨b, 0, none⟩)] w fun e w' =>
      e = .returned (.agg #[.int .i64 (hi (clamp (sgn m (x * 18446744073709551616 + y)))), .int .u64 (lo (clamp (sgn m (x * 18446744073709551616 + y))))]) ∧ Below w.heap.size w w' := by
  have g0 := g.lt
  have g1 := g.one
  rcases (by omega : 9223372036854775807 < x ∨ x ≤ 9223372036854775807) with hx | hx
  · have hcell : ∀ o, (w.alloc o).cell? ⟨b, 0, none⟩ = some (.bool m) := fun o => (g.old o).one
    have hres : hi (clamp (sgn m (x * 18446744073709551616 + y))) = (if m then -9223372036854775808 else 9223372036854775807) ∧ lo (clamp (sgn m (x * 18446744073709551616 + y))) = (if m then 0 else 18446744073709551615) := by
      unfold sgn clamp hi lo
      cases m
      · simp only [Bool.false_eq_true, if_false]; rw [if_neg (by omega), if_pos (by omega)]; omega
      · simp only [if_true]; split
        · omega
        · have : -(x * 18446744073709551616 + y) = -170141183460469231731687303715884105728 := by omega
          rw [if_neg (by omega), this]; omega
    rw [hres.1, hres.2]; clear hres
    have q1 := fun (w' : World) (h : Blk w' w.heap.size #[.int .i64 0, .int .u64 0] 125) => h.two
    have q2 := fun (w' : World) (h : Blk w' w.heap.size #[.int .i64 0, .int .u64 0] 125) => h.free0
    cases m
    · go_enter Tryz.func109, Tryz.ntmps109
      go_wp2_with (go_at_call 94; refine (bound_high _).mono ?_; rintro e w' ⟨rfl, hb⟩; have g := Blk.keep hb (Blk.new (b := w.heap.size) (T := 125) rfl); have gB := ((Below.refl w.heap.size w).alloc (Nat.le_refl _) _).trans (hb.mono (by simp)))
      have hfin := (g.put (i := 0) (.int .i64 9223372036854775807)).put (i := 1) (.int .u64 18446744073709551615)
      exact bodyPost_ret (v := .agg #[.int .i64 9223372036854775807, .int .u64 18446744073709551615]) (by simp [results, Tryz.results109, go_sem, (show Blk _ _ #[.int .i64 9223372036854775807, .int .u64 18446744073709551615] _ from hfin).two]) rfl ⟨rfl, (gB.setCell (by simp) _).setCell (by simp) _⟩
    · go_enter Tryz.func109, Tryz.ntmps109
      go_wp2_with (go_at_call 94; refine (bound_low _).mono ?_; rintro e w' ⟨rfl, hb⟩; have g := Blk.keep hb (Blk.new (b := w.heap.size) (T := 125) rfl); have gB := ((Below.refl w.heap.size w).alloc (Nat.le_refl _) _).trans (hb.mono (by simp)))
      have hfin := (g.put (i := 0) (.int .i64 (-9223372036854775808))).put (i := 1) (.int .u64 0)
      exact bodyPost_ret (v := .agg #[.int .i64 (-9223372036854775808), .int .u64 0]) (by simp [results, Tryz.results109, go_sem, (show Blk _ _ #[.int .i64 (-9223372036854775808), .int .u64 0] _ from hfin).two]) rfl ⟨rfl, (gB.setCell (by simp) _).setCell (by simp) _⟩
  · have hcell : ∀ o, (w.alloc o).cell? ⟨b, 0, none⟩ = some (.bool m) := fun o => (g.old o).one
    have hcell2 : ∀ o o2, ((w.alloc o).alloc o2).cell? ⟨b, 0, none⟩ = some (.bool m) := fun o o2 => ((g.old o).old o2).one
    have q1 := fun (w' : World) (h : Blk w' w.heap.size #[.int .i64 0, .int .u64 0] 125) => h.two
    have q2 := fun (w' : World) (h : Blk w' w.heap.size #[.int .i64 0, .int .u64 0] 125) => h.free0
    have ei : IntKind.i64.wrap x = x := by rw [IntKind.wrap_i64]; omega
    have hneg := fun w => neg_any x y y0 y1 (by omega) hx w
    cases m
    · have hres : clamp (sgn false (x * 18446744073709551616 + y)) = x * 18446744073709551616 + y := by
        unfold sgn; simp only [Bool.false_eq_true, if_false]; exact clamp_of (inR_of y0 y1 (by omega) hx)
      rw [hres, hi_of y0 y1 rfl, lo_of y0 y1 rfl]
      clear hneg hres
      go_enter Tryz.func109, Tryz.ntmps109
      go_wp2
      exact bodyPost_ret (v := .agg #[.int .i64 x, .int .u64 y]) (by simp [results, Tryz.results109, go_sem]) rfl ⟨rfl, ((Below.refl _ _).alloc (Nat.le_refl _) _).alloc (by simp) _⟩
    · unfold sgn; simp only [if_true]
      generalize clamp (-(x * 18446744073709551616 + y)) = r at *
      have HN := Lib.hid hneg; clear hneg
      go_enter Tryz.func109, Tryz.ntmps109
      go_wp2_with (go_at_call 110; refine (HN.out _).mono ?_; rintro e w' ⟨rfl, hb⟩; have g := Blk.keep hb (Blk.old (Blk.new (b := w.heap.size) (T := 125) rfl) _); have gB := (((Below.refl w.heap.size w).alloc (Nat.le_refl _) _).alloc (by simp) _).trans (hb.mono (by simp; omega)))
      have hfin := (g.put (i := 0) (.int .i64 (hi r))).put (i := 1) (.int .u64 (lo r))
      exact bodyPost_ret (v := .agg #[.int .i64 (hi r), .int .u64 (lo r)]) (by simp [results, Tryz.results109, go_sem, (show Blk _ _ #[.int .i64 (hi r), .int .u64 (lo r)] _ from hfin).two]) rfl ⟨rfl, (gB.setCell (by simp) _).setCell (by simp) _⟩

theorem mul64_i (x y : Int) (x0 : 0 ≤ x) (x1 : x ≤ 18446744073709551615) (y0 : 0 ≤ y) (y1 : y ≤ 18446744073709551615) (w : World) :
    Calls Tryz.prog 96 #[.int .u64 x, .int .u64 y] w fun e w' => e = .returned (.tuple #[.int .u64 (hi (x * y)), .int .u64 (lo (x * y))]) ∧ w = w' := by
  obtain ⟨a, rfl⟩ := Int.eq_ofNat_of_zero_le x0
  obtain ⟨b, rfl⟩ := Int.eq_ofNat_of_zero_le y0
  refine (Tryz.bits_Mul64 a b (by omega) (by omega) w).mono ?_
  rintro e w' ⟨rfl, rfl⟩
  exact ⟨rfl, rfl⟩

end Go.Proofs.YtidkpdabidlnnaaGreatDoor


/-
  Contracts of package wide: Abs, Cmp, Clip; and of the statements' own 'ends'.
-/

namespace Go.Proofs.YtidkpdabidlnnaaGreatDoor

set_option maxRecDepth 100000

open Go.RowKit

theorem hi_nn {x : Int} (h : 0 ≤ x) : 0 ≤ hi x := by unfold hi; omega
theorem hi_le {x c : Int} (h : x ≤ c) : hi x ≤ c / 18446744073709551616 := by unfold hi; omega
theorem neg_n {n : Int} (hn : InR n) (w : World) :
    Calls Tryz.prog 110 #[.agg #[.int .i64 (hi n), .int .u64 (lo n)]] w fun e w' =>
      e = .returned (.agg #[.int .i64 (hi (clamp (-n))), .int .u64 (lo (clamp (-n)))]) ∧ Below w.heap.size w w' := by
  have := neg_any (hi n) (lo n) (lo_bd n).1 (lo_bd n).2 (hi_bd hn).1 (hi_bd hn).2 w
  rwa [hilo] at this
theorem negative_n (n : Int) (w : World) :
    Calls Tryz.prog 78 #[.agg #[.int .i64 (hi n), .int .u64 (lo n)]] w fun e w' => e = .returned (.bool (decide (n < 0))) ∧ Below w.heap.size w w' := by
  have := negative_any (hi n) (lo n) w
  rwa [decide_eq_decide.2 (hi_neg n)] at this

/-- Which is greater, as -1, 0, 1. -/
def cmpI (a b : Int) : Int := if a = b then 0 else if a < b then -1 else 1
theorem hilo_lt (a b : Int) : a < b ↔ hi a < hi b ∨ hi a = hi b ∧ lo a < lo b := by unfold hi lo; omega

end Go.Proofs.YtidkpdabidlnnaaGreatDoor
