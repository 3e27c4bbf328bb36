/-
  Own texts, merged: DenN DenX DenY DenS NumL DenEnv WMath Kit WLeaf Shelf WMore WCmp WMul DivM WDiv WDivN
-/
import Derived.Laws.Externs
import Derived.Shelf.Spec.BitsCarry
import Derived.Test.YtbhgibpocbmipaaRows
import Derived.WalkKit
import Derived.WalkSpells
import Derived.ProofKit
import Derived.OpenShut
import Derived.Lib.Hide
import Derived.OneCell
import Derived.BigQuiet
import Derived.Deep.QuietTactic
import Derived.Deep.RegionHeld3
import Derived.Deep.DrawnRows
import Derived.Deep.DeepCutAuto
import Derived.IntWalk
import Derived.Shelf.Small.Bits
import Derived.Shelf.Strconv.Itoa0
import Derived.Shelf.Bits.Mul64
import Derived.Test.YtbhgibpocbmipaaProg
import Derived.Test.YtbhgibpocbmipaaQ1

/-
  Code and calls, read to a depth; the theorem: what is read of a call, the call does.
-/
namespace Go.Den
open Go.RowKit
noncomputable section

def cok : Code → Bool
  | .region _ ops draw => !draw || regOk ops.toList
  | .seq a b => cok a && cok b
  | .cond _ a b => cok a && cok b
  | .block _ c => cok c
  | .loop c => cok c
  | .scope c => cok c
  | _ => true

section
variable {P : Program} (E : Env P) (e : Ev)
def getF (t : FT) (i : Nat) : Value := evF t (.tmp i)
theorem getF_eq (t : FT) (i : Nat) : getF t i = t.arr.getD i undef := by
  unfold getF; rw [evF_eq]; rfl
def resA (P : Program) (g : AHeap) (t : FT) (h : AHeap) : ResultVar → Option Value
  | .tmp i => some (getF t i)
  | .cell a ty => match getF t a with
    | .pointer (some x) => aload P g h ty x
    | _ => none
def resL (P : Program) (g : AHeap) (t : FT) (h : AHeap) : List ResultVar → Option (List Value)
  | [] => some []
  | x :: r => match resA P g t h x, resL P g t h r with
    | some v, some vs => some (v :: vs)
    | _, _ => none
def resultsA (P : Program) (g : AHeap) (fn : Func) (t : FT) (h : AHeap) : Option Value :=
  match resL P g t h fn.results.toList with
  | some [v] => some v
  | some vs => some (.tuple vs.toArray)
  | none => none
def regionC (g : AHeap) (ops : List Oper) (draw : Bool) (st : St) : Tree (Exit × St) :=
  (match draw with
    | true => drawT E e g ops st.tmps st.h st.nx
    | false => seqT E e g ops ops st.tmps st.h st.nx).bind fun s => .leaf (.normal, s)
def seqC (g : AHeap) (b : Code) (r : Exit × St) : Tree (Exit × St) :=
  match r.1 with
  | .normal => e.code g b r.2
  | _ => .leaf r
def condC (g : AHeap) (x : Operand) (a b : Code) (st : St) : Tree (Exit × St) :=
  bif opndOk x then
    match evF st.tmps x with
    | .bool t => brF E.frc t (e.code g a st) (e.code g b st)
    | _ => .fail
  else .fail
def blockC (id : Nat) (r : Exit × St) : Tree (Exit × St) :=
  match r.1 with
  | .exit id' => bif Nat.beq id' id then .leaf (.normal, r.2) else .leaf r
  | _ => .leaf r
def scopeC (r : Exit × St) : Tree (Exit × St) :=
  match r.1 with
  | .goto _ => .fail
  | _ => .leaf r
/-- What a piece of code does, told of its text alone. -/
structure HdC where
  run : Ev → AHeap → St → Tree (Exit × St)
def cdl (c : Code) : HdC :=
  match c with
  | .skip => ⟨fun _ _ st => .leaf (.normal, st)⟩
  | .label _ => ⟨fun _ _ st => .leaf (.normal, st)⟩
  | .region _ ops draw => ⟨fun e g st => regionC E e g ops.toList draw st⟩
  | .seq a b => ⟨fun e g st => (e.code g a st).bind (seqC e g b)⟩
  | .cond x a b => ⟨fun e g st => condC E e g x a b st⟩
  | .block id c => ⟨fun e g st => (e.code g c st).bind (blockC id)⟩
  | .loop c => ⟨fun e g st => (e.code g c st).bind (seqC e g (.loop c))⟩
  | .exit id => ⟨fun _ _ st => .leaf (.exit id, st)⟩
  | .ret => ⟨fun _ _ st => .leaf (.ret, st)⟩
  | .scope c => ⟨fun e g st => (e.code g c st).bind scopeC⟩
  | _ => ⟨fun _ _ _ => .fail⟩
def codeStep (g : AHeap) (c : Code) (st : St) : Tree (Exit × St) := (cdl E c).run e g st
def retC (g : AHeap) (fn : Func) (st : St) : Tree VR :=
  match resultsA P g fn st.tmps st.h with
  | some v => normV E.frc v fun v => .leaf ⟨v, st.h, st.nx⟩
  | none => .fail
def doneC (g : AHeap) (fn : Func) (r : Exit × St) : Tree VR :=
  match r.1 with
  | .normal => retC E g fn r.2
  | .ret => retC E g fn r.2
  | _ => .fail
def callStep (g : AHeap) (f : FuncId) (args : Array Value) (h : AHeap) (nx : Nat) : Tree VR :=
  match P.funcs[f]? with
  | some fn => match fn.body with
    | some c => bif Nat.ble (args.toList.length + (fn.ntmps - args.toList.length)) roof then startK args.toList fn.ntmps fun t => (e.code g c ⟨t, h, nx⟩).bind (doneC E g fn) else .fail
    | none => .fail
  | none => .fail
def ev (n : Nat) : Ev :=
  Nat.rec (motive := fun _ => Ev) ⟨fun _ _ _ => .fail, fun _ _ _ _ _ => .fail⟩ (fun _ e => ⟨codeStep E e, callStep E e⟩) n
end

section
variable {P : Program} {E : Env P} {e : Ev} {ρ : Nat → Nat} {g h : AHeap} {nx : Nat} {w : World}
theorem getD_ren (t : Array Value) (i : Nat) : (t.map (ren ρ)).getD i undef = ren ρ (t.getD i undef) := by
  simp only [Array.getD_eq_getD_getElem?, Array.getElem?_map]
  cases t[i]? with
  | none => simp [ren_undef]
  | some v => rfl
theorem getD_bel {t : Array Value} (ht : SWf t nx) (i : Nat) : bel nx (t.getD i undef) = true := by
  rw [Array.getD_eq_getD_getElem?]
  by_cases hi : i < t.size
  · rw [Array.getElem?_eq_getElem hi]; exact ht _ (Array.getElem_mem hi)
  · rw [Array.getElem?_eq_none (by omega)]; exact bel_undef _
def resC (t : Array Value) (x : ResultVar) : Sem Value :=
  match x with
  | .tmp i => pure (t.getD i undef)
  | .cell a ty => do loadVar ty (← asAddr (t.getD a undef))
theorem results_eq (fn : Func) (t : Array Value) : results fn t = (do let vs ← fn.results.mapM (resC t); pure (if hh : vs.size = 1 then vs[0] else .tuple vs)) := rfl
theorem run_resA (R : Rel ρ g h nx w) {t : FT} (ht : SWf t.arr nx) {x : ResultVar} {v : Value} (hv : resA P g t h x = some v) :
    (resC (t.arr.map (ren ρ)) x).run P w = .ok (ren ρ v) w ∧ bel nx v = true := by
  cases x with
  | tmp i =>
    simp only [resA, getF_eq] at hv
    cases hv
    exact ⟨by unfold resC; simp only [getD_ren]; rfl, getD_bel ht i⟩
  | cell a ty =>
    unfold resA at hv
    simp only [getF_eq] at hv
    split at hv
    · rename_i ad had
      obtain ⟨h1, h2⟩ := run_aload R hv
      refine ⟨?_, h2⟩
      unfold resC
      simp only [getD_ren, had, ren, asAddr, Sem.run_bind, Sem.run_pure, Result.andThen_ok]
      exact h1
    · cases hv
theorem run_resL (R : Rel ρ g h nx w) {t : FT} (ht : SWf t.arr nx) : ∀ (l : List ResultVar) (vs : List Value), resL P g t h l = some vs →
    (l.mapM (resC (t.arr.map (ren ρ)))).run P w = .ok (vs.map (ren ρ)) w ∧ ∀ v ∈ vs, bel nx v = true
  | [], vs, hv => by cases hv; exact ⟨by simp, by simp⟩
  | x :: r, vs, hv => by
    unfold resL at hv
    split at hv
    · rename_i v us h1 h2
      cases hv
      obtain ⟨a1, a2⟩ := run_resA R ht h1
      obtain ⟨b1, b2⟩ := run_resL R ht r us h2
      refine ⟨?_, fun y hy => ?_⟩
      · rw [List.mapM_cons, Sem.run_bind, a1, Result.andThen_ok, Sem.run_bind, b1]; rfl
      · rcases List.mem_cons.1 hy with rfl | hy
        · exact a2
        · exact b2 y hy
    · cases hv
theorem run_resultsA (R : Rel ρ g h nx w) {t : FT} (ht : SWf t.arr nx) {fn : Func} {v : Value} (hv : resultsA P g fn t h = some v) :
    (results fn (t.arr.map (ren ρ))).run P w = .ok (ren ρ v) w ∧ bel nx v = true := by
  unfold resultsA at hv
  have key : ∀ vs, resL P g t h fn.results.toList = some vs → (results fn (t.arr.map (ren ρ))).run P w = .ok (if hh : (vs.map (ren ρ)).toArray.size = 1 then (vs.map (ren ρ)).toArray[0] else .tuple (vs.map (ren ρ)).toArray) w ∧ ∀ v ∈ vs, bel nx v = true := by
    intro vs h1
    obtain ⟨a1, a2⟩ := run_resL R ht _ vs h1
    refine ⟨?_, a2⟩
    rw [results_eq, Array.mapM_eq_mapM_toList, Sem.run_bind, Sem.run_map, a1]
    rfl
  split at hv
  · rename_i v' h1
    cases hv
    obtain ⟨a1, a2⟩ := key _ h1
    exact ⟨a1, a2 _ (by simp)⟩
  · rename_i vs hne h1
    cases hv
    obtain ⟨a1, a2⟩ := key _ h1
    refine ⟨?_, by rw [bel_tuple]; intro v hv; exact a2 v (by simpa using hv)⟩
    rw [a1, dif_neg]
    · rw [ren_tuple]; simp
    · intro hs
      simp only [List.size_toArray, List.length_map] at hs
      obtain ⟨y, rfl⟩ := List.length_eq_one_iff.1 hs
      exact hne y rfl
  · cases hv

/-- As 'wp', but that a loop begins with a round. -/
def cwp (P : Program) (c : Code) (Q : Exit → Act → World → Prop) (a : Act) (w : World) : Prop :=
  match c with
  | .loop b => ∀ (f : Frame) (k : List Item) (cs : List Frame), ∃ e a' w', Q e a' w' ∧ Arrives P (lone (f.at a (.code b :: .inLoop b :: k)) cs w) f k cs e a' w'
  | c => c.wp P Q a w
theorem cwp_wp {c : Code} {Q : Exit → Act → World → Prop} {a : Act} (h : cwp P c Q a w) : c.wp P Q a w := by
  unfold cwp at h
  split at h
  · intro f k cs
    obtain ⟨e, a', w', hq, harr⟩ := h f k cs
    exact ⟨e, a', w', hq, .of_steps (.one step_loop) harr⟩
  · exact h
theorem cwp_loop {b : Code} {Q : Exit → Act → World → Prop} {a : Act} (h : b.wp P (Exit.then (fun a w => cwp P (.loop b) Q a w) Q) a w) : cwp P (.loop b) Q a w := by
  intro f k cs
  obtain ⟨e, a₁, w₁, hq, harr⟩ := h f (.inLoop b :: k) cs
  cases e with
  | normal =>
    obtain ⟨e₂, a₂, w₂, hq₂, harr₂⟩ := hq f k cs
    exact ⟨e₂, a₂, w₂, hq₂, .of_steps (Steps.trans harr (.one step_inLoop)) harr₂⟩
  | exit id => exact ⟨_, a₁, w₁, hq, .pass (x := .inLoop b) rfl (fun _ _ => .inl (by simp)) harr⟩
  | goto l => exact ⟨_, a₁, w₁, hq, .pass (x := .inLoop b) rfl (fun _ _ => .inl (by simp)) harr⟩
  | ret => exact ⟨_, a₁, w₁, hq, .pass (x := .inLoop b) rfl (fun _ _ => .inl (by simp)) harr⟩
  | panic ch => exact ⟨_, a₁, w₁, hq, .pass (x := .inLoop b) rfl (fun _ _ => .inl (by simp)) harr⟩
  | outgrown => exact ⟨_, a₁, w₁, hq, .pass (x := .inLoop b) rfl (fun _ _ => .inl (by simp)) harr⟩
theorem cwp_of {c : Code} {Q : Exit → Act → World → Prop} {a : Act} (hn : ∀ b, c ≠ .loop b) (h : c.wp P Q a w) : cwp P c Q a w := by
  unfold cwp
  split
  · exact absurd rfl (hn _)
  · exact h
def SatCode (P : Program) (g : AHeap) (c : Code) (st : St) (x : Exit) (st' : St) : Prop :=
  ∀ ρ w, Rel ρ g st.h st.nx w → SWf st.tmps.arr st.nx → cwp P c (Post g x st' ρ st.h st.nx w) (actOf ρ st.tmps.arr) w
structure SoundC (P : Program) (e : Ev) : Prop extends Sound P e where
  code : ∀ g c st r, cok c = true → (e.code g c st).run = some r → SatCode P g c st r.1 r.2
theorem Post.trans {x : Exit} {st' : St} {ρ' : Nat → Nat} {h' : AHeap} {nx' : Nat} {w' : World} (S : Step ρ h nx w ρ' h' nx' w') {e : Exit} {a : Act} {u : World} (hp : Post g x st' ρ' h' nx' w' e a u) : Post g x st' ρ h nx w e a u := by
  obtain ⟨h1, ρ2, h2, h3, h4, h5⟩ := hp
  exact ⟨h1, ρ2, h2, h3, h4, S.trans h5⟩
theorem codeStep_sound (hs : SoundC P e) {c : Code} {st : St} {r : Exit × St} (hok : cok c = true) (hc : (codeStep E e g c st).run = some r) : SatCode P g c st r.1 r.2 := by
  intro ρ w R ht
  have here : ∀ x, Post g x st ρ st.h st.nx w x (actOf ρ st.tmps.arr) w := fun x => ⟨rfl, ρ, rfl, ht, R, R.step⟩
  unfold codeStep cdl at hc
  split at hc
  · cases hc; exact cwp_of (by intro b h; cases h) (wp_skip (here _))
  · cases hc; exact cwp_of (by intro b h; cases h) (wp_label (here _))
  · rename_i id ops draw
    refine cwp_of (by intro b h; cases h) ?_
    unfold regionC at hc
    obtain ⟨s, h1, hc2⟩ := Tree.run_bind_out hc
    clear hc
    cases draw
    · simp only at h1
      cases hc2
      exact wp_region_list (by simpa using seqT_sound hs.toSound ops.toList ops.toList _ _ _ s h1 ρ w R ht)
    · simp only at h1
      cases hc2
      have := drawT_sound (ops := ops.toList) hs.toSound id (by simpa [cok] using hok) h1 R ht
      simpa using this
  · rename_i a b
    simp only [cok, Bool.and_eq_true] at hok
    refine cwp_of (by intro b h; cases h) (wp_seq ?_)
    obtain ⟨s, h1, hc⟩ := Tree.run_bind_out hc
    refine wp_mono (cwp_wp (hs.code g a st s hok.1 h1 ρ w R ht)) ?_
    rintro x a' w' ⟨rfl, ρ', rfl, ht', R', S⟩
    obtain ⟨x, s'⟩ := s
    cases x with
    | normal =>
      exact wp_mono (cwp_wp (hs.code g b s' r hok.2 hc ρ' w' R' ht')) fun x a u hp => hp.trans S
    | exit id => cases hc; exact ⟨rfl, ρ', rfl, ht', R', S⟩
    | goto l => cases hc; exact ⟨rfl, ρ', rfl, ht', R', S⟩
    | ret => cases hc; exact ⟨rfl, ρ', rfl, ht', R', S⟩
    | panic ch => cases hc; exact ⟨rfl, ρ', rfl, ht', R', S⟩
    | outgrown => cases hc; exact ⟨rfl, ρ', rfl, ht', R', S⟩
  · rename_i x a b
    simp only [cok, Bool.and_eq_true] at hok
    unfold condC at hc
    simp only [evF_eq] at hc
    cases hx : opndOk x <;> simp only [hx, cond_true, cond_false] at hc
    · cases hc
    split at hc
    · rename_i t htv
      have hev : (actOf ρ st.tmps.arr).eval x = .bool t := by rw [actOf_eval R hx, htv]; rfl
      refine cwp_of (by intro b h; cases h) (wp_cond hev ?_)
      rcases run_brF hc with ⟨rfl, hc2⟩ | ⟨rfl, hc2⟩
      · exact cwp_wp (hs.code g a st r hok.1 hc2 ρ w R ht)
      · exact cwp_wp (hs.code g b st r hok.2 hc2 ρ w R ht)
    · cases hc
  · rename_i id c
    simp only [cok] at hok
    refine cwp_of (by intro b h; cases h) (wp_block ?_)
    obtain ⟨s, h1, hc⟩ := Tree.run_bind_out hc
    refine wp_mono (cwp_wp (hs.code g c st s hok h1 ρ w R ht)) ?_
    rintro x a' w' ⟨rfl, ρ', rfl, ht', R', S⟩
    obtain ⟨x, s'⟩ := s
    cases x with
    | exit id' =>
      simp only [blockC] at hc
      simp only [Exit.inBlock]
      cases hb : Nat.beq id' id <;> simp only [hb, cond_true, cond_false] at hc
      · cases hc
        have hne : ¬ id' = id := fun he => by rw [he] at hb; simp at hb
        rw [if_neg hne]; exact ⟨rfl, ρ', rfl, ht', R', S⟩
      · cases hc
        rw [Nat.beq_eq] at hb
        rw [if_pos hb]; exact ⟨rfl, ρ', rfl, ht', R', S⟩
    | normal => cases hc; exact ⟨rfl, ρ', rfl, ht', R', S⟩
    | goto l => cases hc; exact ⟨rfl, ρ', rfl, ht', R', S⟩
    | ret => cases hc; exact ⟨rfl, ρ', rfl, ht', R', S⟩
    | panic ch => cases hc; exact ⟨rfl, ρ', rfl, ht', R', S⟩
    | outgrown => cases hc; exact ⟨rfl, ρ', rfl, ht', R', S⟩
  · rename_i c
    have hok' := hok
    simp only [cok] at hok
    refine cwp_loop ?_
    obtain ⟨s, h1, hc⟩ := Tree.run_bind_out hc
    refine wp_mono (cwp_wp (hs.code g c st s hok h1 ρ w R ht)) ?_
    rintro x a' w' ⟨rfl, ρ', rfl, ht', R', S⟩
    obtain ⟨x, s'⟩ := s
    cases x with
    | normal =>
      intro f k cs
      obtain ⟨e, a2, w2, hq, harr⟩ := hs.code g (.loop c) s' r hok' hc ρ' w' R' ht' f k cs
      exact ⟨e, a2, w2, hq.trans S, harr⟩
    | exit id => cases hc; exact ⟨rfl, ρ', rfl, ht', R', S⟩
    | goto l => cases hc; exact ⟨rfl, ρ', rfl, ht', R', S⟩
    | ret => cases hc; exact ⟨rfl, ρ', rfl, ht', R', S⟩
    | panic ch => cases hc; exact ⟨rfl, ρ', rfl, ht', R', S⟩
    | outgrown => cases hc; exact ⟨rfl, ρ', rfl, ht', R', S⟩
  · cases hc; exact cwp_of (by intro b h; cases h) (wp_exit (here _))
  · cases hc; exact cwp_of (by intro b h; cases h) (wp_ret (here _))
  · rename_i c
    simp only [cok] at hok
    refine cwp_of (by intro b h; cases h) (wp_scope_straight ?_)
    obtain ⟨s, h1, hc⟩ := Tree.run_bind_out hc
    refine wp_mono (cwp_wp (hs.code g c st s hok h1 ρ w R ht)) ?_
    rintro x a' w' ⟨rfl, ρ', rfl, ht', R', S⟩
    obtain ⟨x, s'⟩ := s
    cases x with
    | goto l => cases hc
    | normal => cases hc; exact ⟨rfl, ρ', rfl, ht', R', S⟩
    | exit id => cases hc; exact ⟨rfl, ρ', rfl, ht', R', S⟩
    | ret => cases hc; exact ⟨rfl, ρ', rfl, ht', R', S⟩
    | panic ch => cases hc; exact ⟨rfl, ρ', rfl, ht', R', S⟩
    | outgrown => cases hc; exact ⟨rfl, ρ', rfl, ht', R', S⟩
  · cases hc
theorem callStep_sound (hs : SoundC P e) (hcok : ∀ (f : Nat) fn c, P.funcs[f]? = some fn → fn.body = some c → cok c = true) {f : FuncId} {args : Array Value} {r : VR} (hc : (callStep E e g f args h nx).run = some r) :
    SatCall P g f args h nx r ∧ (P.funcs[f]?.bind (·.body)).isSome = true := by
  unfold callStep at hc
  split at hc
  · rename_i fn hf
    split at hc
    · rename_i c hb
      cases hle : Nat.ble (args.toList.length + (fn.ntmps - args.toList.length)) roof <;> simp only [hle, cond_true, cond_false] at hc
      · cases hc
      rw [startK_eq] at hc
      have e1 : (start args.toList fn.ntmps).arr = args ++ Array.replicate (fn.ntmps - args.size) undef := by
        rw [start_arr _ _ (by rwa [Nat.ble_eq] at hle)]
        apply Array.toList_inj.1; simp
      refine ⟨fun ρ w R ha => ?_, by rw [hf]; simp [hb]⟩
      obtain ⟨s, h1, hc⟩ := Tree.run_bind_out hc
      have hst : SWf (start args.toList fn.ntmps).arr nx := by
        rw [e1]
        intro v hv
        rcases Array.mem_append.1 hv with hv | hv
        · exact ha v hv
        · rw [(Array.mem_replicate.1 hv).2]; exact bel_undef _
      have hact : (⟨args.map (ren ρ) ++ Array.replicate (fn.ntmps - (args.map (ren ρ)).size) undef, []⟩ : Act) = actOf ρ (start args.toList fn.ntmps).arr := by
        rw [e1]; unfold actOf; rw [Array.map_append, Array.map_replicate, ren_undef, Array.size_map]
      have key : ∀ v, resultsA P g fn s.2.tmps s.2.h = some v → r = ⟨v, s.2.h, s.2.nx⟩ → ∀ a' w', Post g s.1 s.2 ρ h nx w s.1 a' w' →
          a'.defers = [] ∧ ∃ u, (results fn a'.tmps).run P w' = .ok u w' ∧ (∃ ρ', Ending.returned u = .returned (ren ρ' r.v) ∧ bel r.nx r.v = true ∧ Rel ρ' g r.h r.nx w' ∧ Step ρ h nx w ρ' r.h r.nx w') := by
        rintro v hv rfl a' w' ⟨_, ρ', rfl, ht', R', S⟩
        obtain ⟨a1, a2⟩ := run_resultsA R' ht' hv
        exact ⟨rfl, _, a1, ρ', rfl, a2, R', S⟩
      refine calls_of_wp hf hb ?_
      rw [hact]
      refine wp_mono (cwp_wp (hs.code g c _ s (hcok f fn c hf hb) h1 ρ w R hst)) ?_
      intro x a' w' hp
      obtain ⟨rfl, hp'⟩ := hp
      obtain ⟨x, s'⟩ := s
      cases x with
      | normal =>
        simp only [doneC, retC] at hc
        split at hc
        · rename_i v hv
          rw [normV_run] at hc
          cases hc; exact key v hv rfl a' w' ⟨rfl, hp'⟩
        · cases hc
      | ret =>
        simp only [doneC, retC] at hc
        split at hc
        · rename_i v hv
          rw [normV_run] at hc
          cases hc; exact key v hv rfl a' w' ⟨rfl, hp'⟩
        · cases hc
      | exit id => cases hc
      | goto l => cases hc
      | panic ch => cases hc
      | outgrown => cases hc
    · cases hc
  · cases hc
theorem ev_sound (E : Env P) (hcok : ∀ (f : Nat) fn c, P.funcs[f]? = some fn → fn.body = some c → cok c = true) : ∀ n, SoundC P (ev E n)
  | 0 => { call := fun _ _ _ _ _ _ h => (by cases h), code := fun _ _ _ _ _ h => (by cases h) }
  | n + 1 => { call := fun _ _ _ _ _ _ h => callStep_sound (ev_sound E hcok n) hcok h, code := fun _ _ _ _ hok h => codeStep_sound (ev_sound E hcok n) hok h }
end
end
end Go.Den

/-
  Functions without a Go body, as they are read; and from a reading to a call.
-/
namespace Go.Den
open Go.RowKit
noncomputable section

/-- math/bits.Add64. -/
def add64A : Array Value → Option (Bool × Value)
  | ⟨[.int .u64 x, .int .u64 y, .int .u64 c]⟩ => some (decide (0 ≤ c) && (decide (c ≤ 1) && (decide (0 ≤ x) && decide (0 ≤ y))),
      .tuple #[.int .u64 ((x + y + c) % 18446744073709551616), .int .u64 ((x + y + c) / 18446744073709551616)])
  | _ => none
/-- math/bits.Sub64. -/
def sub64A : Array Value → Option (Bool × Value)
  | ⟨[.int .u64 x, .int .u64 y, .int .u64 b]⟩ => some (decide (0 ≤ b) && (decide (b ≤ 1) && (decide (0 ≤ x) && (decide (0 ≤ y) && decide (y ≤ 18446744073709551615)))),
      .tuple #[.int .u64 ((x - y - b) % 18446744073709551616), .int .u64 (if x < y + b then 1 else 0)])
  | _ => none
section
variable {P : Program} {f : FuncId} {fn : Func}
theorem add64_ext (hf : P.funcs[f]? = some fn) (hn : (fn.name == "runtime.NumGoroutine") = false) (hb : fn.body.isNone = true) (h1 : Extern.findNext fn = none) (h2 : Extern.find fn = some Go.add64Entry)
    {args : Array Value} {r : Bool × Value} (hr : add64A args = some r) (hok : r.1 = true) : bel B0 r.2 = true ∧ ∀ w, (callFunc f args).run P w = .ok (.value r.2) w := by
  unfold add64A at hr
  split at hr
  · rename_i x y c
    cases hr
    simp only [Bool.and_eq_true, decide_eq_true_eq] at hok
    refine ⟨rfl, fun w => ?_⟩
    rw [run_callFunc_extern hf hn hb h1 h2, Go.run_add64 x y c hok.2.2.1 hok.2.2.2 hok.1 hok.2.1]
    rfl
  · cases hr
theorem sub64_ext (hf : P.funcs[f]? = some fn) (hn : (fn.name == "runtime.NumGoroutine") = false) (hb : fn.body.isNone = true) (h1 : Extern.findNext fn = none) (h2 : Extern.find fn = some Go.Proofs.sub64Entry)
    {args : Array Value} {r : Bool × Value} (hr : sub64A args = some r) (hok : r.1 = true) : bel B0 r.2 = true ∧ ∀ w, (callFunc f args).run P w = .ok (.value r.2) w := by
  unfold sub64A at hr
  split at hr
  · rename_i x y b
    cases hr
    simp only [Bool.and_eq_true, decide_eq_true_eq] at hok
    refine ⟨rfl, fun w => ?_⟩
    obtain ⟨p4, p5, p1, p2, p3⟩ := hok
    obtain ⟨x, rfl⟩ := Int.eq_ofNat_of_zero_le p1
    obtain ⟨y, rfl⟩ := Int.eq_ofNat_of_zero_le p2
    obtain ⟨b, rfl⟩ := Int.eq_ofNat_of_zero_le p4
    rw [run_callFunc_extern hf hn hb h1 h2, Go.Proofs.run_sub64 x y b (by omega)]
    simp only [Result.andThen]
    have e1 : (((x + 18446744073709551616 - y - b) % 18446744073709551616 : Nat) : Int) = ((x : Int) - y - b) % 18446744073709551616 := by omega
    have e2 : ((if x < y + b then 1 else 0 : Nat) : Int) = if (x : Int) < y + b then 1 else 0 := by
      by_cases h : x < y + b
      · rw [if_pos h, if_pos (by omega)]; rfl
      · rw [if_neg h, if_neg (by omega)]; rfl
    rw [e1, e2]
  · cases hr
end
/-- What is read of a call whose arguments, and whose value, bear no addresses. -/
theorem calls_read {P : Program} (E : Env P) (hcok : ∀ (f : Nat) fn c, P.funcs[f]? = some fn → fn.body = some c → cok c = true) (n : Nat) {f : FuncId} {args : Array Value} {v : Value}
    (hr : (((ev E n).call [] f args [] B0).run.map (·.v)) = some v) (ha : args.all (bel B0) = true) (hv : bel B0 v = true) (w : World) : Calls P f args w fun e w' => e = .returned v ∧ Below w.heap.size w w' := by
  cases hq : ((ev E n).call [] f args [] B0).run with
  | none => rw [hq] at hr; cases hr
  | some r =>
    rw [hq] at hr
    simp only [Option.map_some, Option.some.injEq] at hr
    subst hr
    obtain ⟨h1, _⟩ := (ev_sound E hcok n).call _ _ _ _ _ _ hq
    have R : Rel id [] [] B0 w := ⟨fun _ _ => rfl, Nat.le_refl _, fun b B h => (by cases h), fun b B h => (by cases h), fun b b' B B' h => (by cases h), fun b b' B B' h => (by cases h), fun b B h => (by cases h), fun b B h => (by cases h), fun b B h => (by cases h), fun b B h => (by cases h)⟩
    have hargs : ∀ v ∈ args, bel B0 v = true := Array.all_eq_true_iff_forall_mem.1 ha
    have h2 := h1 id w R hargs
    rw [map_low R hargs] at h2
    refine h2.mono ?_
    rintro e w' ⟨ρ', rfl, hb, R', S⟩
    exact ⟨by rw [ren_id R'.low r.v hv], ⟨S.os, S.tape, S.output, S.size, fun k hk => S.none_keep k hk⟩⟩
theorem eq_of_all {p : Func → Bool} {P : Program} (h : P.funcs.all p = true) {f : Nat} {fn : Func} (hf : P.funcs[f]? = some fn) : p fn = true :=
  (Array.all_eq_true_iff_forall_mem.1 h) fn (Array.mem_of_getElem? hf)
end
end Go.Den

/-
  Contracts as oracles of a reading; what must hold, as one proposition.
-/
namespace Go.Den
open Go.RowKit
noncomputable section

theorem holds_leaf {α : Type} {Q : α → Prop} {a : α} : (Tree.leaf a).holds Q = Q a := rfl
theorem bcase_t {p q : Prop} : bcase true p q = p := rfl
theorem bcase_in {b : Bool} {p q : Prop} (hp : b = true → p) (hq : b = false → q) : bcase b p q := by
  cases b
  · exact hq rfl
  · exact hp rfl
theorem all_bel {n : Nat} {l : List Value} (h : belL n l = true) : (⟨l⟩ : Array Value).all (bel n) = true := by
  rw [belL_eq] at h; simpa using h
/-- The same contract for every call of a function whose arguments are as told: nothing old turns. -/
structure PC (P : Program) where
  f : FuncId
  spec : Array Value → Option (Bool × Value)
  body : (P.funcs[f]?.bind (·.body)).isSome = true
  ok : ∀ args r, spec args = some r → r.1 = true → args.all (bel B0) = true ∧ bel B0 r.2 = true ∧ ∀ w, Calls P f args w fun e w' => e = .returned r.2 ∧ Below w.heap.size w w'
def orcOf {P : Program} : List (PC P) → FuncId → Array Value → AHeap → Nat → Option (Tree VR)
  | [], _, _, _, _ => none
  | c :: r, f, args, h, nx => bif Nat.beq c.f f then
      match c.spec args with
      | some q => some (.br q.1 (.leaf ⟨q.2, h, nx⟩) .fail)
      | none => orcOf r f args h nx
    else orcOf r f args h nx
theorem orcOf_sound {P : Program} {g h : AHeap} {nx : Nat} : ∀ (l : List (PC P)) (f : FuncId) (args : Array Value) (t : Tree VR) (r : VR), orcOf l f args h nx = some t → t.run = some r →
    SatCall P g f args h nx r ∧ (P.funcs[f]?.bind (·.body)).isSome = true
  | [], _, _, _, _, ho, _ => by cases ho
  | c :: l, f, args, t, r, ho, hr => by
    unfold orcOf at ho
    simp only [cond_eq_ite, Nat.beq_eq] at ho
    split at ho
    · rename_i hf
      split at ho
      · rename_i q hq
        cases ho
        obtain ⟨hok, hr⟩ := Tree.run_guard hr
        cases hr
        obtain ⟨h1, h2, h3⟩ := c.ok args q hq hok
        subst hf
        refine ⟨fun ρ w R ha => ?_, c.body⟩
        have hlow : ∀ v ∈ args, bel B0 v = true := Array.all_eq_true_iff_forall_mem.1 h1
        rw [map_low R hlow]
        refine (h3 w).mono ?_
        rintro e w' ⟨rfl, hb⟩
        refine ⟨ρ, by rw [ren_low R h2], bel_low R h2, R.later (fun _ _ => rfl) fun k hk => hb.block k hk,
          ⟨Nat.le_refl _, fun _ _ => rfl, fun b B hb' _ => ⟨B, hb'⟩, fun b B hb' hn => absurd (R.lt b B hb').2 (by omega), hb.size, hb.os, hb.tape, hb.output, fun k hk _ => hb.block k hk⟩⟩
      · exact orcOf_sound l f args t r ho hr
    · exact orcOf_sound l f args t r ho hr
/-- The same reading with other oracles. -/
def Env.with {P : Program} (E : Env P) (fr : Bool) (l : List (PC P)) : Env P :=
  { E with
    frc := fr
    orc := fun _ f args h nx => orcOf l f args h nx
    horc := fun _ f args _ _ t r ho hr => orcOf_sound l f args t r ho hr }
/-- From what must hold to a call: Q of its value. -/
theorem calls_holds {P : Program} (E : Env P) (hcok : ∀ (f : Nat) fn c, P.funcs[f]? = some fn → fn.body = some c → cok c = true) (n : Nat) {f : FuncId} {args : Array Value} {Q : Value → Prop}
    (hr : ((ev E n).call [] f args [] B0).holds fun r => bel B0 r.v = true ∧ Q r.v) (ha : args.all (bel B0) = true) (w : World) : Calls P f args w fun e w' => ∃ v, e = .returned v ∧ Q v ∧ Below w.heap.size w w' := by
  obtain ⟨r, h1, h2, h3⟩ := Tree.holds_out hr
  refine (calls_read E hcok n (v := r.v) (by rw [h1]; rfl) ha h2 w).mono ?_
  rintro e w' ⟨rfl, hb⟩
  exact ⟨_, rfl, h3, hb⟩
/-- A contract out of a reading. -/
theorem calls_spec {P : Program} (E : Env P) (hcok : ∀ (f : Nat) fn c, P.funcs[f]? = some fn → fn.body = some c → cok c = true) (n : Nat) {f : FuncId} {args : Array Value} {v : Value}
    (hr : ((ev E n).call [] f args [] B0).holds fun r => r.v = v) (ha : args.all (bel B0) = true) (hv : bel B0 v = true) (w : World) : Calls P f args w fun e w' => e = .returned v ∧ Below w.heap.size w w' := by
  obtain ⟨r, h1, h2⟩ := Tree.holds_out hr
  exact calls_read E hcok n (v := v) (by rw [h1]; simp [h2]) ha hv w
end
end Go.Den

/-
  Pieces of code, one behind another: what each comes to, put together.
-/
namespace Go.Den
open Go.RowKit
noncomputable section

def cL : Code → Code
  | .seq a _ => a
  | .cond _ a _ => a
  | .block _ c => c
  | .loop c => c
  | .scope c => c
  | c => c
def cR : Code → Code
  | .seq _ b => b
  | .cond _ _ b => b
  | c => c
section
variable {P : Program} {g : AHeap} {c a b : Code} {st s1 s2 : St} {x : Exit} {id : Nat}
theorem cwp_mono {Q Q' : Exit → Act → World → Prop} {a : Act} {w : World} (h : cwp P c Q a w) (hQ : ∀ x a w, Q x a w → Q' x a w) : cwp P c Q' a w := by
  unfold cwp at *
  split at h
  · intro f k cs
    obtain ⟨e, a', w', hq, harr⟩ := h f k cs
    exact ⟨e, a', w', hQ _ _ _ hq, harr⟩
  · rename_i hne
    exact wp_mono h hQ
theorem sat_read (E : Env P) (hcok : ∀ (f : Nat) fn c, P.funcs[f]? = some fn → fn.body = some c → cok c = true) (n : Nat) {r : Exit × St} (hok : cok c = true) (h : ((ev E n).code g c st).run = some r) : SatCode P g c st r.1 r.2 :=
  (ev_sound E hcok n).code g c st r hok h
theorem sat_seq (hc : c = .seq a b) (h1 : SatCode P g a st .normal s1) (h2 : SatCode P g b s1 x s2) : SatCode P g c st x s2 := by
  subst hc
  intro ρ w R ht
  refine cwp_of (by intro b h; cases h) (wp_seq ?_)
  refine wp_mono (cwp_wp (h1 ρ w R ht)) ?_
  rintro x a' w' ⟨rfl, ρ', rfl, ht', R', S⟩
  exact wp_mono (cwp_wp (h2 ρ' w' R' ht')) fun x a u hp => hp.trans S
theorem sat_seq_exit (hc : c = .seq a b) (h1 : SatCode P g a st (.exit id) s1) : SatCode P g c st (.exit id) s1 := by
  subst hc
  intro ρ w R ht
  refine cwp_of (by intro b h; cases h) (wp_seq ?_)
  refine wp_mono (cwp_wp (h1 ρ w R ht)) ?_
  rintro x a' w' ⟨rfl, ρ', rfl, ht', R', S⟩
  exact ⟨rfl, ρ', rfl, ht', R', S⟩
theorem sat_block (hc : c = .block id b) (h : SatCode P g b st (.exit id) s1) : SatCode P g c st .normal s1 := by
  subst hc
  intro ρ w R ht
  refine cwp_of (by intro b h; cases h) (wp_block ?_)
  refine wp_mono (cwp_wp (h ρ w R ht)) ?_
  rintro x a' w' ⟨rfl, ρ', rfl, ht', R', S⟩
  simp only [Exit.inBlock, if_pos]
  exact ⟨rfl, ρ', rfl, ht', R', S⟩
theorem sat_block_normal (hc : c = .block id b) (h : SatCode P g b st .normal s1) : SatCode P g c st .normal s1 := by
  subst hc
  intro ρ w R ht
  refine cwp_of (by intro b h; cases h) (wp_block ?_)
  refine wp_mono (cwp_wp (h ρ w R ht)) ?_
  rintro x a' w' ⟨rfl, ρ', rfl, ht', R', S⟩
  exact ⟨rfl, ρ', rfl, ht', R', S⟩
theorem sat_loop (hc : c = .loop b) (h1 : SatCode P g b st .normal s1) (h2 : SatCode P g c s1 x s2) : SatCode P g c st x s2 := by
  subst hc
  intro ρ w R ht
  refine cwp_loop ?_
  refine wp_mono (cwp_wp (h1 ρ w R ht)) ?_
  rintro x a' w' ⟨rfl, ρ', rfl, ht', R', S⟩
  intro f k cs
  obtain ⟨e, a2, w2, hq, harr⟩ := h2 ρ' w' R' ht' f k cs
  exact ⟨e, a2, w2, hq.trans S, harr⟩
theorem sat_loop_exit (hc : c = .loop b) (h1 : SatCode P g b st (.exit id) s1) : SatCode P g c st (.exit id) s1 := by
  subst hc
  intro ρ w R ht
  refine cwp_loop ?_
  refine wp_mono (cwp_wp (h1 ρ w R ht)) ?_
  rintro x a' w' ⟨rfl, ρ', rfl, ht', R', S⟩
  exact ⟨rfl, ρ', rfl, ht', R', S⟩
/-- The same temporaries, told in another way. -/
theorem sat_arr (ht : s2.tmps.arr = st.tmps.arr) (hh : s2.h = st.h) (hn : s2.nx = st.nx) (h : SatCode P g c s2 x s1) : SatCode P g c st x s1 := by
  intro ρ w R hs
  have := h ρ w (by rw [hn, hh]; exact R) (by rw [ht, hn]; exact hs)
  rw [ht, hn, hh] at this
  exact this
/-- Blocks that are not wanted any more. -/
theorem sat_drop (ht : s2.tmps = st.tmps) (hn : s2.nx = st.nx) (hh : ∀ b B, s2.h.get b = some B → st.h.get b = some B) (h : SatCode P g c s2 x s1) : SatCode P g c st x s1 := by
  intro ρ w R hs
  have := h ρ w (by rw [hn]; exact R.sub hh fun _ _ h => h) (by rw [ht, hn]; exact hs)
  rw [ht, hn] at this
  refine cwp_mono this ?_
  rintro x a w' ⟨rfl, ρ', rfl, ht', R', S⟩
  refine ⟨rfl, ρ', rfl, ht', R', S.le, S.agree, fun b B hb hl => ?_, S.new, S.size, S.os, S.tape, S.output, fun k hk hno => S.keep k hk fun b B hb => hno b B (hh b B hb)⟩
  obtain ⟨C, hC⟩ := S.old b B hb hl
  exact ⟨C, hh b C hC⟩
theorem sat_call {f : FuncId} {fn : Func} {args : Array Value} {h : AHeap} {nx : Nat} {v : Value} (hf : P.funcs[f]? = some fn) (hb : fn.body = some c) (hle : Nat.ble (args.toList.length + (fn.ntmps - args.toList.length)) roof = true)
    (hs : SatCode P g c ⟨start args.toList fn.ntmps, h, nx⟩ x s1) (hx : x = .normal ∨ x = .ret) (hv : resultsA P g fn s1.tmps s1.h = some v) : SatCall P g f args h nx ⟨v, s1.h, s1.nx⟩ := by
  have e1 : (start args.toList fn.ntmps).arr = args ++ Array.replicate (fn.ntmps - args.size) undef := by
    rw [start_arr _ _ (by rwa [Nat.ble_eq] at hle)]
    apply Array.toList_inj.1; simp
  intro ρ w R ha
  have hst : SWf (start args.toList fn.ntmps).arr nx := by
    rw [e1]
    intro v hv
    rcases Array.mem_append.1 hv with hv | hv
    · exact ha v hv
    · rw [(Array.mem_replicate.1 hv).2]; exact bel_undef _
  have hact : (⟨args.map (ren ρ) ++ Array.replicate (fn.ntmps - (args.map (ren ρ)).size) undef, []⟩ : Act) = actOf ρ (start args.toList fn.ntmps).arr := by
    rw [e1]; unfold actOf; rw [Array.map_append, Array.map_replicate, ren_undef, Array.size_map]
  refine calls_of_wp hf hb ?_
  rw [hact]
  refine wp_mono (cwp_wp (hs ρ w R hst)) ?_
  rintro e a' w' ⟨rfl, ρ', rfl, ht', R', S⟩
  obtain ⟨a1, a2⟩ := run_resultsA R' ht' hv
  have key : (actOf ρ' s1.tmps.arr).defers = [] ∧ ∃ u, (results fn (actOf ρ' s1.tmps.arr).tmps).run P w' = .ok u w' ∧ (∃ ρ2, Ending.returned u = .returned (ren ρ2 v) ∧ bel s1.nx v = true ∧ Rel ρ2 g s1.h s1.nx w' ∧ Step ρ h nx w ρ2 s1.h s1.nx w') :=
    ⟨rfl, _, a1, ρ', rfl, a2, R', S⟩
  rcases hx with rfl | rfl
  · exact key
  · exact key
theorem calls_sat {f : FuncId} {args : Array Value} {r : VR} (h1 : SatCall P [] f args [] B0 r) (ha : args.all (bel B0) = true) (hv : bel B0 r.v = true) (w : World) : Calls P f args w fun e w' => e = .returned r.v ∧ Below w.heap.size w w' := by
  have R : Rel id [] [] B0 w := ⟨fun _ _ => rfl, Nat.le_refl _, fun b B h => (by cases h), fun b B h => (by cases h), fun b b' B B' h => (by cases h), fun b b' B B' h => (by cases h), fun b B h => (by cases h), fun b B h => (by cases h), fun b B h => (by cases h), fun b B h => (by cases h)⟩
  have hargs : ∀ v ∈ args, bel B0 v = true := Array.all_eq_true_iff_forall_mem.1 ha
  have h2 := h1 id w R hargs
  rw [map_low R hargs] at h2
  refine h2.mono ?_
  rintro e w' ⟨ρ', rfl, hb, R', S⟩
  exact ⟨by rw [ren_id R'.low r.v hv], ⟨S.os, S.tape, S.output, S.size, fun k hk => S.none_keep k hk⟩⟩
/-- What a tree without partings comes to. -/
def outOf (t : Tree (Exit × St)) : Exit × St := t.run.getD (.normal, ⟨⟨0, .nil⟩, [], 0⟩)
def tlOf (s : St) : List Value := (List.range s.tmps.size).map fun i => s.tmps.tr.get i
theorem run_outOf {t : Tree (Exit × St)} (h : t.run.isSome = true) : t.run = some (outOf t) := by
  unfold outOf
  cases ht : t.run with
  | none => rw [ht] at h; cases h
  | some r => rfl
end
end
end Go.Den


/-
  Rows of pieces of 16 bits, the lowest first: what they stand for; sums, products. No program is named here.
-/
namespace Go.Proofs.Ytbhgibpocbmipaa
open Go.Den
noncomputable section

def val : List Int → Int
  | [] => 0
  | x :: r => x + 65536 * val r
def Pcs (l : List Int) : Prop := ∀ x ∈ l, 0 ≤ x ∧ x ≤ 65535
theorem Pcs.head {x : Int} {l : List Int} (h : Pcs (x :: l)) : 0 ≤ x ∧ x ≤ 65535 := h x (by simp)
theorem Pcs.tail {x : Int} {l : List Int} (h : Pcs (x :: l)) : Pcs l := fun y hy => h y (by simp [hy])
theorem Pcs.cons {x : Int} {l : List Int} (h : 0 ≤ x ∧ x ≤ 65535) (t : Pcs l) : Pcs (x :: l) := fun y hy => by
  rcases List.mem_cons.1 hy with rfl | hy
  · exact h
  · exact t y hy
theorem Pcs.nil : Pcs [] := fun _ h => by cases h
/-- The pieces of a number. -/
def digsN (k : Nat) : Int → List Int := Nat.rec (motive := fun _ => Int → List Int) (fun _ => []) (fun _ ih n => n % 65536 :: ih (n / 65536)) k
theorem digsN_s (k : Nat) (n : Int) : digsN (k + 1) n = n % 65536 :: digsN k (n / 65536) := rfl
def B16 (k : Nat) : Int := 65536 ^ k
theorem B16_s (k : Nat) : B16 (k + 1) = 65536 * B16 k := by unfold B16; rw [Int.pow_succ, Int.mul_comm]
theorem B16_0 : B16 0 = 1 := rfl
theorem B16_pos : ∀ k, 0 < B16 k
  | 0 => by rw [B16_0]; omega
  | k + 1 => by have := B16_pos k; rw [B16_s]; omega
theorem val_bd : ∀ {l : List Int}, Pcs l → 0 ≤ val l ∧ val l < B16 l.length
  | [], _ => by simp [val, B16]
  | x :: r, h => by
    have h1 := val_bd h.tail
    have h2 := h.head
    simp only [val, List.length_cons, B16_s]; omega
theorem digsN_len : ∀ (k : Nat) (n : Int), (digsN k n).length = k
  | 0, _ => rfl
  | k + 1, n => by rw [digsN_s, List.length_cons, digsN_len k]
theorem digsN_pcs : ∀ (k : Nat) (n : Int), Pcs (digsN k n)
  | 0, _ => .nil
  | k + 1, n => by rw [digsN_s]; exact .cons (by omega) (digsN_pcs k _)
theorem val_digsN : ∀ (k : Nat) (n : Int), 0 ≤ n → n < B16 k → val (digsN k n) = n
  | 0, n, h0, h1 => by rw [B16_0] at h1; show (0 : Int) = n; omega
  | k + 1, n, h0, h1 => by
    rw [B16_s] at h1
    rw [digsN_s, val, val_digsN k (n / 65536) (by omega) (by omega)]; omega
theorem digsN_val : ∀ {l : List Int}, Pcs l → digsN l.length (val l) = l
  | [], _ => rfl
  | x :: r, h => by
    have h2 := h.head
    rw [List.length_cons, digsN_s, val, show (x + 65536 * val r) % 65536 = x by omega, show (x + 65536 * val r) / 65536 = val r by omega, digsN_val h.tail]
def mapU (l : List Int) : List Value := List.rec (motive := fun _ => List Value) [] (fun x _ ih => Value.int .u64 x :: ih) l
def intV (v : Value) : Int :=
  match v with
  | .int _ n => n
  | _ => 0
def ints (r : List Value) : List Int := List.rec (motive := fun _ => List Int) [] (fun v _ ih => intV v :: ih) r
theorem ints_mapU : ∀ l : List Int, ints (mapU l) = l
  | [] => rfl
  | x :: r => by show x :: ints (mapU r) = x :: r; rw [ints_mapU r]
def okD (v : Value) : Bool :=
  match v with
  | .int .u64 n => decide (0 ≤ n) && decide (n ≤ 65535)
  | _ => false
def okNum (r : List Value) : Bool := Nat.beq r.length 20 && r.all okD
theorem okNum_out {r : List Value} (h : okNum r = true) : ∃ l, r = mapU l ∧ l.length = 20 ∧ Pcs l := by
  have key : ∀ r : List Value, r.all okD = true → ∃ l, r = mapU l ∧ l.length = r.length ∧ Pcs l := by
    intro r
    induction r with
    | nil => intro _; exact ⟨[], rfl, rfl, .nil⟩
    | cons v r ih =>
      intro h
      rw [List.all_cons, Bool.and_eq_true] at h
      obtain ⟨l, rfl, hl, hp⟩ := ih h.2
      have hv := h.1
      unfold okD at hv
      split at hv
      · rename_i n
        rw [Bool.and_eq_true, decide_eq_true_eq, decide_eq_true_eq] at hv
        exact ⟨n :: l, rfl, by rw [List.length_cons, List.length_cons, hl], .cons hv hp⟩
      · cases hv
  unfold okNum at h
  rw [Bool.and_eq_true, Nat.beq_eq] at h
  obtain ⟨l, e, hl, hp⟩ := key r h.2
  exact ⟨l, e, by omega, hp⟩
theorem mapU_len : ∀ l : List Int, (mapU l).length = l.length
  | [] => rfl
  | x :: r => by show (mapU r).length + 1 = r.length + 1; rw [mapU_len r]
theorem okNum_in {l : List Int} (h : l.length = 20) (p : Pcs l) : okNum (mapU l) = true := by
  unfold okNum
  rw [mapU_len, h, Bool.and_eq_true]
  refine ⟨rfl, ?_⟩
  clear h
  induction l with
  | nil => rfl
  | cons x r ih =>
    show (okD (.int .u64 x) && (mapU r).all okD) = true
    rw [ih p.tail, Bool.and_true]
    have := p.head
    simp only [okD, Bool.and_eq_true, decide_eq_true_eq]; exact this
def mag (r : List Value) : Int := val (ints r)
theorem mag_mapU (l : List Int) : mag (mapU l) = val l := by unfold mag; rw [ints_mapU]
/-- A number of the document: a sign, a size. -/
def nv (s : Bool) (n : Int) : Value := .agg ⟨.bool s :: mapU (digsN 20 n)⟩
def T320 : Int := 2135987035920910082395021706169552114602704522356652769947041607822219725780640550022962086936576
theorem T320_eq : B16 20 = T320 := by unfold T320 B16; rfl
theorem mag_nv {n : Int} (h0 : 0 ≤ n) (h1 : n < T320) : mag (mapU (digsN 20 n)) = n := by
  rw [mag_mapU]; exact val_digsN 20 n h0 (by rw [T320_eq]; exact h1)
theorem ok_nv (n : Int) : okNum (mapU (digsN 20 n)) = true := okNum_in (digsN_len _ _) (digsN_pcs _ _)
theorem nv_of {s : Bool} {l : List Int} {n : Int} (h : l.length = 20) (p : Pcs l) (e : val l = n) : Value.agg ⟨.bool s :: mapU l⟩ = nv s n := by
  unfold nv; rw [← e, ← h, digsN_val p]
theorem mag_bd {r : List Value} (h : okNum r = true) : 0 ≤ mag r ∧ mag r < T320 := by
  obtain ⟨l, rfl, hl, hp⟩ := okNum_out h
  rw [mag_mapU, ← T320_eq, ← hl]; exact val_bd hp
theorem nv_mag {s : Bool} {r : List Value} (h : okNum r = true) : Value.agg ⟨.bool s :: r⟩ = nv s (mag r) := by
  obtain ⟨l, rfl, hl, hp⟩ := okNum_out h
  rw [mag_mapU]; exact nv_of hl hp rfl

theorem w64 {n : Int} (h0 : 0 ≤ n) (h1 : n ≤ 18446744073709551615) : IntKind.wrap .u64 n = n := by rw [IntKind.wrap_u64]; omega
theorem td {o : Int} (h0 : 0 ≤ o) : Int.tdiv o 65536 = o / 65536 := Int.tdiv_eq_ediv_of_nonneg h0
theorem tm {o : Int} (h0 : 0 ≤ o) : Int.tmod o 65536 = o % 65536 := Int.tmod_eq_emod_of_nonneg h0
/-- A sum of two sizes, the last piece of the second left out. -/
def addGo (xs : List Int) : Int → List Int → List Int :=
  List.rec (motive := fun _ => Int → List Int → List Int) (fun o _ => [o]) (fun x _ ih o ys => List.casesOn (motive := fun _ => List Int) ys [o] (fun y ys =>
    Int.tmod (IntKind.wrap .u64 (o + y)) 65536 :: ih (IntKind.wrap .u64 (x + IntKind.wrap .u64 (Int.tdiv (IntKind.wrap .u64 (o + y)) 65536))) ys)) xs
theorem addGo_nil (o : Int) (ys : List Int) : addGo [] o ys = [o] := rfl
theorem addGo_cons (x : Int) (xs : List Int) (o y : Int) (ys : List Int) : addGo (x :: xs) o (y :: ys) =
    Int.tmod (IntKind.wrap .u64 (o + y)) 65536 :: addGo xs (IntKind.wrap .u64 (x + IntKind.wrap .u64 (Int.tdiv (IntKind.wrap .u64 (o + y)) 65536))) ys := rfl
theorem one_pcs {o : Int} (h : 0 ≤ o ∧ o ≤ 65535) : Pcs [o] := Pcs.cons h Pcs.nil
theorem val_one (o : Int) : val [o] = o := by rw [val, val]; omega
theorem B16_1 : B16 1 = 65536 := by rw [B16_s, B16_0, Int.mul_one]
theorem addGo_ok (xs : List Int) : ∀ (o : Int) (ys : List Int), Pcs xs → Pcs ys → xs.length ≤ ys.length → 0 ≤ o → o ≤ 65536 → o + 65536 * val xs + val (ys.take xs.length) < B16 (xs.length + 1) →
    Pcs (addGo xs o ys) ∧ (addGo xs o ys).length = xs.length + 1 ∧ val (addGo xs o ys) = o + 65536 * val xs + val (ys.take xs.length) := by
  induction xs with
  | nil =>
    intro o ys _ _ _ h0 _ h2
    rw [List.length_nil, Nat.zero_add, B16_1, List.take_zero, val] at h2
    rw [addGo_nil, List.length_nil, List.take_zero, val, val_one]
    exact ⟨one_pcs (by omega), rfl, by omega⟩
  | cons x xs ih =>
    intro o ys px py hl h0 h1 h2
    cases ys with
    | nil => simp at hl
    | cons y ys =>
      have hx := px.head; have hy := py.head
      have e1 : IntKind.wrap .u64 (o + y) = o + y := w64 (by omega) (by omega)
      have e2 : IntKind.wrap .u64 (Int.tdiv (o + y) 65536) = (o + y) / 65536 := by rw [td (by omega)]; exact w64 (by omega) (by omega)
      have e3 : IntKind.wrap .u64 (x + (o + y) / 65536) = x + (o + y) / 65536 := w64 (by omega) (by omega)
      rw [List.length_cons, List.take_succ_cons, val, val, B16_s] at h2
      rw [List.length_cons, List.length_cons] at hl
      obtain ⟨i1, i2, i3⟩ := ih (x + (o + y) / 65536) ys px.tail py.tail (by omega) (by omega) (by omega) (by omega)
      rw [addGo_cons, e1, e2, e3, tm (by omega)]
      refine ⟨.cons (by omega) i1, by rw [List.length_cons, i2, List.length_cons], ?_⟩
      rw [val, i3, List.length_cons, List.take_succ_cons, val, val]; omega
/-- A difference of two sizes, the first not the less. -/
def subGo (xs : List Int) : List Int → Int → List Int :=
  List.rec (motive := fun _ => List Int → Int → List Int) (fun _ _ => []) (fun x _ ih ys b => List.casesOn (motive := fun _ => List Int) ys [] (fun y ys =>
    Int.tmod (IntKind.wrap .u64 (IntKind.wrap .u64 (IntKind.wrap .u64 (x + 65536) - y) - b)) 65536 ::
      ih ys (IntKind.wrap .u64 (1 - IntKind.wrap .u64 (Int.tdiv (IntKind.wrap .u64 (IntKind.wrap .u64 (IntKind.wrap .u64 (x + 65536) - y) - b)) 65536))))) xs
theorem subGo_ok : ∀ (xs ys : List Int) (b : Int), Pcs xs → Pcs ys → xs.length = ys.length → 0 ≤ b → b ≤ 1 → 0 ≤ val xs - val ys - b →
    Pcs (subGo xs ys b) ∧ (subGo xs ys b).length = xs.length ∧ val (subGo xs ys b) = val xs - val ys - b
  | [], [], b, _, _, _, h0, h1, h2 => by
    simp only [val] at h2
    show Pcs [] ∧ 0 = 0 ∧ val [] = _
    refine ⟨.nil, rfl, ?_⟩
    simp only [val]; omega
  | [], y :: ys, b, _, _, hl, _, _, _ => by simp at hl
  | x :: xs, [], b, _, _, hl, _, _, _ => by simp at hl
  | x :: xs, y :: ys, b, px, py, hl, h0, h1, h2 => by
    have hx := px.head; have hy := py.head
    have e1 : IntKind.wrap .u64 (IntKind.wrap .u64 (IntKind.wrap .u64 (x + 65536) - y) - b) = x + 65536 - y - b := by
      rw [w64 (n := x + 65536) (by omega) (by omega), w64 (n := x + 65536 - y) (by omega) (by omega)]; exact w64 (by omega) (by omega)
    have e2 : IntKind.wrap .u64 (1 - IntKind.wrap .u64 (Int.tdiv (x + 65536 - y - b) 65536)) = 1 - (x + 65536 - y - b) / 65536 := by
      rw [td (by omega), w64 (n := (x + 65536 - y - b) / 65536) (by omega) (by omega)]; exact w64 (by omega) (by omega)
    have eq : subGo (x :: xs) (y :: ys) b = (x + 65536 - y - b) % 65536 :: subGo xs ys (1 - (x + 65536 - y - b) / 65536) := by
      show Int.tmod (IntKind.wrap .u64 (IntKind.wrap .u64 (IntKind.wrap .u64 (x + 65536) - y) - b)) 65536 ::
        subGo xs ys (IntKind.wrap .u64 (1 - IntKind.wrap .u64 (Int.tdiv (IntKind.wrap .u64 (IntKind.wrap .u64 (IntKind.wrap .u64 (x + 65536) - y) - b)) 65536))) = _
      rw [e1, e2, tm (by omega)]
    simp only [List.length_cons, val] at h2 hl ⊢
    obtain ⟨i1, i2, i3⟩ := subGo_ok xs ys (1 - (x + 65536 - y - b) / 65536) px.tail py.tail (by omega) (by omega) (by omega) (by omega)
    rw [eq]
    refine ⟨.cons (by omega) i1, by rw [List.length_cons, i2], ?_⟩
    rw [val, i3]; omega
/-- A row, and a piece's products with another row on it. -/
def addRow (x : Int) (os : List Int) : List Int → List Int :=
  List.rec (motive := fun _ => List Int → List Int) (fun _ => []) (fun o os ih ys => List.casesOn (motive := fun _ => List Int) ys (o :: os) (fun y ys => IntKind.wrap .u64 (o + IntKind.wrap .u64 (x * y)) :: ih ys)) os
def mrow (x : Int) (i : Nat) : List Int → List Int → List Int :=
  Nat.rec (motive := fun _ => List Int → List Int → List Int) (fun os ys => addRow x os ys) (fun _ ih os ys => List.casesOn (motive := fun _ => List Int) os [] fun o os => o :: ih os ys) i
def carryGo (r : List Int) : Int → List Int :=
  List.rec (motive := fun _ => Int → List Int) (fun o => [o]) (fun p _ ih o => Int.tmod o 65536 :: ih (IntKind.wrap .u64 (p + IntKind.wrap .u64 (Int.tdiv o 65536)))) r
def carry (os : List Int) : List Int := List.casesOn (motive := fun _ => List Int) os [] fun o r => carryGo r o
def mulGo (b : List Int) (xs : List Int) : Nat → List Int → List Int :=
  List.rec (motive := fun _ => Nat → List Int → List Int) (fun _ os => os) (fun x _ ih i os => ih (i + 1) (carry (mrow x i os b))) xs
/-- Pieces on the way: not above 2^33. -/
def Big (l : List Int) : Prop := ∀ x ∈ l, 0 ≤ x ∧ x ≤ 8589934592
theorem Big.head {x : Int} {l : List Int} (h : Big (x :: l)) : 0 ≤ x ∧ x ≤ 8589934592 := h x (by simp)
theorem Big.tail {x : Int} {l : List Int} (h : Big (x :: l)) : Big l := fun y hy => h y (by simp [hy])
theorem Big.cons {x : Int} {l : List Int} (h : 0 ≤ x ∧ x ≤ 8589934592) (t : Big l) : Big (x :: l) := fun y hy => by
  rcases List.mem_cons.1 hy with rfl | hy
  · exact h
  · exact t y hy
theorem Pcs.big {l : List Int} (h : Pcs l) : Big l := fun x hx => by have := h x hx; omega
theorem addRow_ok {x : Int} (hx : 0 ≤ x ∧ x ≤ 65535) : ∀ (os ys : List Int), Pcs os → Pcs ys → os.length ≤ ys.length →
    Big (addRow x os ys) ∧ (addRow x os ys).length = os.length ∧ val (addRow x os ys) = val os + x * val (ys.take os.length)
  | [], ys, _, _, _ => by
    refine ⟨fun _ h => (by cases h), rfl, ?_⟩
    rw [List.length_nil, List.take_zero]
    show (0 : Int) = 0 + x * 0
    omega
  | o :: os, [], _, _, hl => by simp at hl
  | o :: os, y :: ys, po, py, hl => by
    have ho := po.head; have hy := py.head
    have p0 : 0 ≤ x * y := Int.mul_nonneg hx.1 hy.1
    have p1 : x * y ≤ 65535 * 65535 := Int.mul_le_mul hx.2 hy.2 hy.1 (by omega)
    have e : IntKind.wrap .u64 (o + IntKind.wrap .u64 (x * y)) = o + x * y := by
      rw [w64 (n := x * y) p0 (by omega)]; exact w64 (by omega) (by omega)
    have eq : addRow x (o :: os) (y :: ys) = (o + x * y) :: addRow x os ys := by
      show IntKind.wrap .u64 (o + IntKind.wrap .u64 (x * y)) :: addRow x os ys = _
      rw [e]
    simp only [List.length_cons] at hl
    obtain ⟨i1, i2, i3⟩ := addRow_ok hx os ys po.tail py.tail (by omega)
    rw [eq]
    refine ⟨.cons (by omega) i1, by rw [List.length_cons, i2, List.length_cons], ?_⟩
    rw [val, i3, List.length_cons, List.take_succ_cons, val, val, Int.mul_add x y, Int.mul_left_comm x 65536]; omega
theorem mrow_ok {x : Int} (hx : 0 ≤ x ∧ x ≤ 65535) : ∀ (i : Nat) (os ys : List Int), Pcs os → Pcs ys → os.length ≤ ys.length + i → i ≤ os.length →
    Big (mrow x i os ys) ∧ (mrow x i os ys).length = os.length ∧ val (mrow x i os ys) = val os + B16 i * (x * val (ys.take (os.length - i)))
  | 0, os, ys, po, py, hl, _ => by
    obtain ⟨i1, i2, i3⟩ := addRow_ok hx os ys po py (by omega)
    refine ⟨i1, i2, ?_⟩
    show val (addRow x os ys) = _
    rw [i3, B16_0, Int.one_mul, Nat.sub_zero]
  | i + 1, [], ys, _, _, _, hi => by simp at hi
  | i + 1, o :: os, ys, po, py, hl, hi => by
    simp only [List.length_cons] at hl hi
    obtain ⟨i1, i2, i3⟩ := mrow_ok hx i os ys po.tail py (by omega) (by omega)
    have ho := po.head
    show Big (o :: mrow x i os ys) ∧ (o :: mrow x i os ys).length = _ ∧ val (o :: mrow x i os ys) = _
    refine ⟨.cons (by omega) i1, by rw [List.length_cons, i2, List.length_cons], ?_⟩
    rw [val, i3, List.length_cons, val, B16_s, Nat.add_sub_add_right, Int.mul_add, Int.mul_assoc]; omega
theorem carryGo_nil (o : Int) : carryGo [] o = [o] := rfl
theorem carryGo_cons (p : Int) (r : List Int) (o : Int) : carryGo (p :: r) o = Int.tmod o 65536 :: carryGo r (IntKind.wrap .u64 (p + IntKind.wrap .u64 (Int.tdiv o 65536))) := rfl
theorem carryGo_ok (r : List Int) : ∀ (o : Int), Big r → 0 ≤ o → o ≤ 8590196736 → o + 65536 * val r < B16 (r.length + 1) →
    Pcs (carryGo r o) ∧ (carryGo r o).length = r.length + 1 ∧ val (carryGo r o) = o + 65536 * val r := by
  induction r with
  | nil =>
    intro o _ h0 _ h2
    rw [List.length_nil, Nat.zero_add, B16_1, val] at h2
    rw [carryGo_nil, List.length_nil, val, val_one]
    exact ⟨one_pcs (by omega), rfl, by omega⟩
  | cons p r ih =>
    intro o hb h0 h1 h2
    have hp := hb.head
    have e1 : IntKind.wrap .u64 (p + IntKind.wrap .u64 (Int.tdiv o 65536)) = p + o / 65536 := by
      rw [td h0, w64 (n := o / 65536) (by omega) (by omega)]; exact w64 (by omega) (by omega)
    rw [List.length_cons, val, B16_s] at h2
    obtain ⟨i1, i2, i3⟩ := ih (p + o / 65536) hb.tail (by omega) (by omega) (by omega)
    rw [carryGo_cons, e1, tm h0]
    refine ⟨.cons (by omega) i1, by rw [List.length_cons, i2, List.length_cons], ?_⟩
    rw [val, i3, val]; omega
theorem carry_ok {os : List Int} (hb : Big os) (hl : os.length = 20) (h : val os < T320) : Pcs (carry os) ∧ (carry os).length = 20 ∧ val (carry os) = val os := by
  cases os with
  | nil => simp at hl
  | cons o r =>
    simp only [List.length_cons] at hl
    have ho := hb.head
    have hr : r.length + 1 = 20 := hl
    rw [← T320_eq, ← hr] at h
    obtain ⟨i1, i2, i3⟩ := carryGo_ok r o hb.tail ho.1 (by omega) h
    exact ⟨i1, by rw [← hr]; exact i2, i3⟩
theorem val_take : ∀ (l : List Int) (k : Nat), Pcs l → val l < B16 k → val (l.take k) = val l
  | [], k, _, _ => by rw [List.take_nil]
  | x :: r, 0, h, h1 => by
    rw [B16_0] at h1
    have := (val_bd h).1
    rw [List.take_zero]; show (0 : Int) = _; omega
  | x :: r, k + 1, h, h1 => by
    have hx := h.head
    rw [val, B16_s] at h1
    rw [List.take_succ_cons, val, val, val_take r k h.tail (by omega)]
theorem mul_gap {x v : Int} {i : Nat} (hi : i ≤ 20) (hx : 0 ≤ x) (hv : 0 ≤ v) (h : B16 i * (x * v) < B16 20) (h0 : x ≠ 0) : v < B16 (20 - i) := by
  have e : B16 20 = B16 i * B16 (20 - i) := by unfold B16; rw [← Int.pow_add]; congr 1; omega
  rw [e] at h
  have h2 := Int.lt_of_mul_lt_mul_left h (Int.le_of_lt (B16_pos i))
  have h3 : 1 * v ≤ x * v := Int.mul_le_mul_of_nonneg_right (by omega) hv
  omega
theorem mulGo_ok {ys : List Int} (py : Pcs ys) (ly : ys.length = 20) : ∀ (xs : List Int) (i : Nat) (os : List Int), Pcs xs → Pcs os → os.length = 20 → xs.length + i = 20 → val os + B16 i * (val xs * val ys) < T320 →
    Pcs (mulGo ys xs i os) ∧ (mulGo ys xs i os).length = 20 ∧ val (mulGo ys xs i os) = val os + B16 i * (val xs * val ys)
  | [], i, os, _, po, lo, _, _ => by
    refine ⟨po, lo, ?_⟩
    show val os = val os + B16 i * (0 * val ys)
    rw [Int.zero_mul, Int.mul_zero, Int.add_zero]
  | x :: xs, i, os, px, po, lo, li, hb => by
    have hx := px.head
    have hy := (val_bd py).1
    have hxs := (val_bd px.tail).1
    have hos := (val_bd po).1
    simp only [List.length_cons] at li
    have e0 : B16 i * (val (x :: xs) * val ys) = B16 i * (x * val ys) + B16 (i + 1) * (val xs * val ys) := by
      rw [val, B16_s, Int.add_mul, Int.mul_add, Int.mul_assoc 65536 (val xs), Int.mul_left_comm (B16 i) 65536, Int.mul_assoc 65536 (B16 i)]
    have n1 : 0 ≤ B16 i * (x * val ys) := Int.mul_nonneg (Int.le_of_lt (B16_pos i)) (Int.mul_nonneg hx.1 hy)
    have n2 : 0 ≤ B16 (i + 1) * (val xs * val ys) := Int.mul_nonneg (Int.le_of_lt (B16_pos _)) (Int.mul_nonneg hxs hy)
    rw [e0] at hb ⊢
    obtain ⟨i1, i2, i3⟩ := mrow_ok hx i os ys po py (by omega) (by omega)
    have e1 : x * val (ys.take (os.length - i)) = x * val ys := by
      by_cases hz : x = 0
      · rw [hz, Int.zero_mul, Int.zero_mul]
      · rw [lo, val_take ys (20 - i) py (mul_gap (by omega) hx.1 hy (by rw [T320_eq]; omega) hz)]
    rw [e1] at i3
    obtain ⟨j1, j2, j3⟩ := carry_ok i1 (by rw [i2, lo]) (by rw [i3]; omega)
    obtain ⟨k1, k2, k3⟩ := mulGo_ok py ly xs (i + 1) (carry (mrow x i os ys)) px.tail j1 j2 (by omega) (by rw [j3, i3]; omega)
    refine ⟨k1, k2, ?_⟩
    show val (mulGo ys xs (i + 1) (carry (mrow x i os ys))) = _
    rw [k3, j3, i3]; omega
/-- The rows from the top: which is the greater one. -/
def sizeP (xs : List Int) : List Int → (Int → Prop) → Prop :=
  List.rec (motive := fun _ => List Int → (Int → Prop) → Prop) (fun _ Q => Q 0) (fun x _ ih ys Q => List.casesOn (motive := fun _ => Prop) ys (Q 0) fun y ys => bcase (decide (x < y)) (Q (-1)) (bcase (decide (x > y)) (Q 1) (ih ys Q))) xs
def zeroP (xs : List Int) : (Bool → Prop) → Prop :=
  List.rec (motive := fun _ => (Bool → Prop) → Prop) (fun Q => Q true) (fun x _ ih Q => bcase (decide (x > 0)) (Q false) (ih Q)) xs
end
end Go.Proofs.Ytbhgibpocbmipaa


namespace Go.Den
open Go.Proofs
set_option maxRecDepth 100000
theorem hmixT : Try.prog.follows .mixedOrders = true := by kernel_rfl
theorem hngT : (Try.prog.funcs.all fun fn => !(fn.name == "runtime.NumGoroutine")) = true := by kernel_rfl
theorem hcokT : (Try.prog.funcs.all fun fn => match fn.body with | some c => cok c | none => true) = true := by kernel_rfl
theorem soWide : Try.prog.stoodInHeld 24 = false ∧ Try.prog.eqGuardType Try.prog.depth 24 = false := ⟨by kernel_rfl, by kernel_rfl⟩
noncomputable def envF (fr : Bool) : Env Try.prog where
  frc := fr
  so := fun t => Nat.beq t 24
  hso := fun t h => by rw [Nat.beq_eq] at h; subst h; exact soWide
  hmix := hmixT
  hng := fun f fn hf => by have := eq_of_all hngT hf; simpa using this
  ext := fun f args => bif Nat.beq f 57 then add64A args else bif Nat.beq f 61 then sub64A args else none
  hext := fun f args r hr hok => by
    simp only [cond_eq_ite, Nat.beq_eq] at hr
    split at hr
    · rename_i h; subst h
      exact add64_ext Try.func57 (by kernel_rfl) (by kernel_rfl) (by kernel_rfl) (by kernel_rfl) hr hok
    · split at hr
      · rename_i h; subst h
        exact sub64_ext Try.func61 (by kernel_rfl) (by kernel_rfl) (by kernel_rfl) (by kernel_rfl) hr hok
      · cases hr
  orc := fun _ _ _ _ _ => none
  horc := fun _ _ _ _ _ _ _ h => by cases h
noncomputable abbrev envT : Env Try.prog := envF true
noncomputable abbrev envS : Env Try.prog := envF false
theorem hcokP (f : Nat) (fn : Func) (c : Code) (hf : Try.prog.funcs[f]? = some fn) (hb : fn.body = some c) : cok c = true := by
  have := eq_of_all hcokT hf
  rw [hb] at this; exact this
end Go.Den


/-
  Plain arithmetic of numbers of 128 bits: a number of the range and its two halves. No program is named here.
-/
namespace Go.Proofs.Ytbhgibpocbmipaa

/-- 2^64 and 2^127, the numbers of the range. -/
def hi (n : Int) : Int := n / 18446744073709551616
def lo (n : Int) : Int := n % 18446744073709551616
def InR (n : Int) : Prop := -170141183460469231731687303715884105728 ≤ n ∧ n ≤ 170141183460469231731687303715884105727
/-- What saturates. -/
def clamp (n : Int) : Int := if n < -170141183460469231731687303715884105728 then -170141183460469231731687303715884105728 else if 170141183460469231731687303715884105727 < n then 170141183460469231731687303715884105727 else n

theorem hilo (n : Int) : hi n * 18446744073709551616 + lo n = n := by unfold hi lo; omega
theorem lo_bd (n : Int) : 0 ≤ lo n ∧ lo n ≤ 18446744073709551615 := by unfold lo; omega
theorem hi_bd {n : Int} (h : InR n) : -9223372036854775808 ≤ hi n ∧ hi n ≤ 9223372036854775807 := by
  unfold InR at h; unfold hi; omega
theorem hi_of {h l n : Int} (h0 : 0 ≤ l) (h1 : l ≤ 18446744073709551615) (e : h * 18446744073709551616 + l = n) : hi n = h := by
  unfold hi; omega
theorem lo_of {h l n : Int} (h0 : 0 ≤ l) (h1 : l ≤ 18446744073709551615) (e : h * 18446744073709551616 + l = n) : lo n = l := by
  unfold lo; omega
theorem inR_of {h l : Int} (h0 : 0 ≤ l) (h1 : l ≤ 18446744073709551615) (g0 : -9223372036854775808 ≤ h) (g1 : h ≤ 9223372036854775807) : InR (h * 18446744073709551616 + l) := by
  unfold InR; omega
theorem hilo_inj {a b : Int} (h : hi a = hi b) (l : lo a = lo b) : a = b := by
  have := hilo a; have := hilo b; rw [h, l] at *; omega
theorem clamp_in (n : Int) : InR (clamp n) := by unfold InR clamp; split <;> (try split) <;> omega
theorem clamp_of {n : Int} (h : InR n) : clamp n = n := by unfold InR at h; unfold clamp; rw [if_neg (by omega), if_neg (by omega)]
theorem hi_neg (n : Int) : hi n < 0 ↔ n < 0 := by unfold hi; omega
end Go.Proofs.Ytbhgibpocbmipaa


/-
  Small lemmas of my own on blocks of memory: what a block of cells holds, and that calls which only make memory leave it.
-/
namespace Go.Proofs.Ytbhgibpocbmipaa
open Go.RowKit

/-- Block b of w is the cells cs, of type T, none of them frozen. -/
def Blk (w : World) (b : Nat) (cs : Array Value) (T : TypeId) : Prop := w.heap[b]? = some (.cells cs T (0, 0))
theorem Blk.cell {w : World} {b : Nat} {cs : Array Value} {T : TypeId} (h : Blk w b cs T) (i : Nat) : w.cell? ⟨b, i, none⟩ = cs[i]? := by
  unfold Blk at h; simp [World.cell?, h]
theorem Blk.free {w : World} {b : Nat} {cs : Array Value} {T : TypeId} (h : Blk w b cs T) (i : Nat) : w.frozen? ⟨b, i, none⟩ = false := by
  unfold Blk at h; simp [World.frozen?, h]
theorem Blk.lt {w : World} {b : Nat} {cs : Array Value} {T : TypeId} (h : Blk w b cs T) : b < w.heap.size := lt_of_block h
theorem Blk.one {w : World} {b : Nat} {x : Value} {T : TypeId} (h : Blk w b #[x] T) : w.cell? ⟨b, 0, none⟩ = some x := h.cell 0
theorem Blk.two {w : World} {b : Nat} {x y : Value} {T : TypeId} (h : Blk w b #[x, y] T) : w.cell? ⟨b, 0, none⟩ = some x ∧ w.cell? ⟨b, 1, none⟩ = some y := ⟨h.cell 0, h.cell 1⟩
theorem Blk.free0 {w : World} {b : Nat} {cs : Array Value} {T : TypeId} (h : Blk w b cs T) : w.frozen? ⟨b, 0, none⟩ = false ∧ w.frozen? ⟨b, 1, none⟩ = false := ⟨h.free 0, h.free 1⟩
theorem Blk.drew {w : World} {b : Nat} {cs : Array Value} {T : TypeId} (h : Blk w b cs T) : Blk w.drew b cs T := h
theorem Blk.new {w : World} {b : Nat} {cs : Array Value} {T : TypeId} (hb : b = w.heap.size) : Blk (w.alloc (.cells cs T)) b cs T := by
  subst hb; show (w.heap.push _)[w.heap.size]? = _; simp
theorem Blk.old {w : World} {b : Nat} {cs : Array Value} {T : TypeId} (h : Blk w b cs T) (o : Obj) : Blk (w.alloc o) b cs T := by
  have := h.lt; unfold Blk at *; rw [Below.heap_alloc _ _ _ this]; exact h
theorem Blk.keep {w w' : World} {b : Nat} {cs : Array Value} {T : TypeId} (hb : Below w.heap.size w w') (h : Blk w b cs T) : Blk w' b cs T := by
  have := h.lt; unfold Blk at *; rw [hb.block _ this]; exact h
theorem Blk.put {w : World} {b i : Nat} {cs : Array Value} {T : TypeId} (h : Blk w b cs T) (v : Value) : Blk (w.setCell ⟨b, i, none⟩ v) b (cs.setIfInBounds i v) T := by
  have hlt := h.lt
  unfold Blk at *
  have h' : w.heap[b] = .cells cs T (0, 0) := by simpa [Array.getElem?_eq_getElem hlt] using h
  show (w.heap.modify b _)[b]? = _
  rw [Array.getElem?_eq_getElem (by simpa using hlt), Array.getElem_modify_self, h']
  rfl
theorem Blk.else {w : World} {b : Nat} {a : Addr} {cs : Array Value} {T : TypeId} (h : Blk w b cs T) (v : Value) (hb : b ≠ a.block) : Blk (w.setCell a v) b cs T := by
  unfold Blk at *; rw [Below.heap_setCell _ _ _ _ hb]; exact h
theorem Blk.else2 {w : World} {b b' : Nat} {cs : Array Value} {x y : Value} {T : TypeId} (n : Blk w b' cs T) (hne : b' ≠ b) : Blk ((w.setCell ⟨b, 0, none⟩ x).setCell ⟨b, 1, none⟩ y) b' cs T := (n.else (a := ⟨b, 0, none⟩) x hne).else (a := ⟨b, 1, none⟩) y hne
theorem Below.put2 {w0 w : World} {b B : Nat} {x y : Value} (h : Below B w0 w) (hb : B ≤ b) : Below B w0 ((w.setCell ⟨b, 0, none⟩ x).setCell ⟨b, 1, none⟩ y) := (h.setCell (p := ⟨b, 0, none⟩) hb x).setCell (p := ⟨b, 1, none⟩) hb y
/-- Below the size that it had a world is as it was, over one more call. -/
theorem keepW {W w w' : World} (h : Below W.heap.size W w) (hb : Below w.heap.size w w') : Below W.heap.size W w' := h.trans (hb.mono h.size)

section
variable {P : Program} {l : List Oper} {Q : Exit → Act → World → Prop} {md : Region.Mode} {S : World → Prop}
/-- An operation that is wanted, and yields its value in every world that meets S, is taken first. -/
theorem H.take (i : Nat) {o : Oper} {v : Value} {fuel : Nat} {listed : Array Bool} {a : Act} {w : World} (ho : l[i]? = some o)
    (hc : (Region.noSelect l.toArray && Region.free md l.toArray listed i && (Region.ready md l.toArray listed).contains i) = true)
    (hQ : ∀ c a w, Q (.panic c) (a.put o.dst v) w → Q (.panic c) a w)
    (hw : Region.wanted o (yielded l.toArray a.tmps) = true) (hv : ∀ w, S w → (execOp a.eval o).run P w = .ok (.value v) w) (hS : S w)
    (h : wpAnyH P md l.toArray Q S fuel (listed.setIfInBounds i true) (a.put o.dst v) w) : wpAnyH P md l.toArray Q S (fuel + 1) listed a w := by
  simp only [Bool.and_eq_true] at hc
  exact wpAnyH_take (by simpa using ho) hc.1.1 hc.1.2 hc.2 hQ (Or.inl ⟨hw, hv⟩) hS h
/-- An operation that is not wanted (its guard said otherwise) is passed by. -/
theorem H.skip (i : Nat) {o : Oper} {fuel : Nat} {listed : Array Bool} {a : Act} {w : World} (ho : l[i]? = some o)
    (hc : (Region.noSelect l.toArray && Region.free md l.toArray listed i && (Region.ready md l.toArray listed).contains i) = true)
    (hQ : ∀ c a w, Q (.panic c) (a.put o.dst undef) w → Q (.panic c) a w)
    (hw : Region.wanted o (yielded l.toArray a.tmps) = false) (hS : S w)
    (h : wpAnyH P md l.toArray Q S fuel (listed.setIfInBounds i true) (a.put o.dst undef) w) : wpAnyH P md l.toArray Q S (fuel + 1) listed a w := by
  simp only [Bool.and_eq_true] at hc
  exact wpAnyH_take (by simpa using ho) hc.1.1 hc.1.2 hc.2 hQ (Or.inr ⟨hw, rfl⟩) hS h
/-- What may come up is known: one goal for each. -/
theorem H.ready (rs : List Nat) {fuel : Nat} {listed : Array Bool} {a : Act} {w : World} (hr : Region.ready md l.toArray listed = rs) (hne : rs ≠ [])
    (h : AllReadyH P md l.toArray Q S fuel listed a w rs) : wpAnyH P md l.toArray Q S (fuel + 1) listed a w := wpAnyH_ready hr hne h
theorem H.one {fuel : Nat} {listed : Array Bool} {a : Act} {w : World} {i : Nat} {o : Oper} {rs : List Nat} (ho : l[i]? = some o)
    (hw : Region.wanted o (yielded l.toArray a.tmps) = true)
    (h : ∀ K' : Act → World → Prop, Shut (∀ a w, S w → (S w → wpAnyH P md l.toArray Q S fuel (listed.setIfInBounds i true) a w) → K' a w) → Oper.wp P o a w K' Q)
    (hs : AllReadyH P md l.toArray Q S fuel listed a w rs) : AllReadyH P md l.toArray Q S fuel listed a w (i :: rs) :=
  AllReadyH.cons (by simpa using ho) (fun K hK => by rw [if_pos hw]; exact h K hK) hs
/-- Behind an alloc: the new block. -/
theorem H.fresh {fuel : Nat} {ops : Array Oper} {listed : Array Bool} {a : Act} {w : World} {cs : Array Value} {T : TypeId}
    (h : Blk (w.alloc (.cells cs T)) w.heap.size cs T → wpAnyH P md ops Q S fuel listed a (w.alloc (.cells cs T))) : wpAnyH P md ops Q S fuel listed a (w.alloc (.cells cs T)) := h (Blk.new rfl)
/-- Behind a store of two cells: the block that was written, and another one. -/
theorem H.stored2 {fuel : Nat} {ops : Array Oper} {listed : Array Bool} {a : Act} {w : World} {b : Nat} {p q x y : Value} {T : TypeId} (n : Blk w b #[p, q] T)
    (h : Blk ((w.setCell ⟨b, 0, none⟩ x).setCell ⟨b, 1, none⟩ y) b #[x, y] T → wpAnyH P md ops Q S fuel listed a ((w.setCell ⟨b, 0, none⟩ x).setCell ⟨b, 1, none⟩ y)) :
    wpAnyH P md ops Q S fuel listed a ((w.setCell ⟨b, 0, none⟩ x).setCell ⟨b, 1, none⟩ y) := h ((n.put (i := 0) x).put (i := 1) y)
theorem H.other2 {fuel : Nat} {ops : Array Oper} {listed : Array Bool} {a : Act} {w : World} {b b' : Nat} {cs : Array Value} {x y : Value} {T : TypeId} (n : Blk w b' cs T) (hne : b' ≠ b)
    (h : Blk ((w.setCell ⟨b, 0, none⟩ x).setCell ⟨b, 1, none⟩ y) b' cs T → wpAnyH P md ops Q S fuel listed a ((w.setCell ⟨b, 0, none⟩ x).setCell ⟨b, 1, none⟩ y)) :
    wpAnyH P md ops Q S fuel listed a ((w.setCell ⟨b, 0, none⟩ x).setCell ⟨b, 1, none⟩ y) := h ((n.else (a := ⟨b, 0, none⟩) x hne).else (a := ⟨b, 1, none⟩) y hne)
theorem H.done {listed : Array Bool} {a : Act} {w : World} (hr : Region.ready md l.toArray listed = []) (h : Q .normal a w) (fuel : Nat) : wpAnyH P md l.toArray Q S fuel listed a w := wpAnyH_done hr h fuel
end
end Go.Proofs.Ytbhgibpocbmipaa


/-
  Contracts of the small functions of package wide.
-/
namespace Go.Proofs.Ytbhgibpocbmipaa
open Go.RowKit

theorem run_add64 (x y c : Int) (hx : 0 ≤ x) (hy : 0 ≤ y) (hc0 : 0 ≤ c) (hc : c ≤ 1) (w : World) :
    (callFunc 57 #[.int .u64 x, .int .u64 y, .int .u64 c]).run Try.prog w =
      .ok (.value (.tuple #[.int .u64 ((x + y + c) % 18446744073709551616), .int .u64 ((x + y + c) / 18446744073709551616)])) w := by
  rw [run_callFunc_extern Try.func57 (by kernel_rfl) (by kernel_rfl) (by kernel_rfl) (e := add64Entry) (by kernel_rfl), Go.run_add64 x y c hx hy hc0 hc]
  rfl

set_option maxHeartbeats 400000 in
theorem negative_any (h l : Int) (w : World) :
    Calls Try.prog 58 #[.agg #[.int .i64 h, .int .u64 l]] w fun e w' => e = .returned (.bool (decide (h < 0))) ∧ Below w.heap.size w w' := by
  go_enter Try.func58, Try.ntmps58
  go_wp2
  go_ret
  exact ⟨rfl, (Below.refl _ _).alloc (Nat.le_refl _) _⟩

theorem negative_yes {h : Int} (l : Int) (hh : h < 0) (w : World) :
    Calls Try.prog 58 #[.agg #[.int .i64 h, .int .u64 l]] w fun e w' => e = .returned (.bool true) ∧ Below w.heap.size w w' := by
  have := negative_any h l w; rwa [decide_eq_true hh] at this
theorem negative_no {h : Int} (l : Int) (hh : ¬ h < 0) (w : World) :
    Calls Try.prog 58 #[.agg #[.int .i64 h, .int .u64 l]] w fun e w' => e = .returned (.bool false) ∧ Below w.heap.size w w' := by
  have := negative_any h l w; rwa [decide_eq_false hh] at this

theorem ret_w {h l h' l' : Int} (e1 : h = h') (e2 : l = l') : Ending.returned (.agg #[.int .i64 h, .int .u64 l]) = .returned (.agg #[.int .i64 h', .int .u64 l']) := by rw [e1, e2]

set_option maxHeartbeats 400000 in
theorem of_any (n : Int) (h0 : -9223372036854775808 ≤ n) (h1 : n ≤ 9223372036854775807) (w : World) :
    Calls Try.prog 15 #[.int .i64 n] w fun e w' => e = .returned (.agg #[.int .i64 (hi n), .int .u64 (lo n)]) ∧ Below w.heap.size w w' := by
  go_enter Try.func15, Try.ntmps15
  go_wp2
  refine bodyPost_ret (v := .agg #[.int .i64 (n / 9223372036854775808), .int .u64 (IntKind.u64.wrap n)]) (by simp [results, Try.results15, go_sem]) rfl ⟨?_, (Below.refl _ _).alloc (Nat.le_refl _) _⟩
  refine ret_w (by unfold hi; omega) (by rw [IntKind.wrap_u64]; unfold lo; omega)

set_option maxHeartbeats 400000 in
theorem bound_low (w : World) :
    Calls Try.prog 59 #[.bool true] w fun e w' => e = .returned (.agg #[.int .i64 (-9223372036854775808), .int .u64 0]) ∧ Below w.heap.size w w' := by
  go_enter Try.func59, Try.ntmps59
  go_wp2
  exact bodyPost_ret (v := .agg #[.int .i64 (-9223372036854775808), .int .u64 0]) (by simp [results, Try.results59, go_sem]) rfl ⟨rfl, (Below.refl _ _).alloc (Nat.le_refl _) _⟩
set_option maxHeartbeats 400000 in
theorem bound_high (w : World) :
    Calls Try.prog 59 #[.bool false] w fun e w' => e = .returned (.agg #[.int .i64 9223372036854775807, .int .u64 18446744073709551615]) ∧ Below w.heap.size w w' := by
  go_enter Try.func59, Try.ntmps59
  go_wp2
  exact bodyPost_ret (v := .agg #[.int .i64 9223372036854775807, .int .u64 18446744073709551615]) (by simp [results, Try.results59, go_sem]) rfl ⟨rfl, (Below.refl _ _).alloc (Nat.le_refl _) _⟩

theorem add_fits {h1 l1 h2 l2 s : Int} (a0 : 0 ≤ l1) (a1 : l1 ≤ 18446744073709551615) (b0 : 0 ≤ l2) (b1 : l2 ≤ 18446744073709551615)
    (c0 : -9223372036854775808 ≤ h1) (c1 : h1 ≤ 9223372036854775807) (d0 : -9223372036854775808 ≤ h2) (d1 : h2 ≤ 9223372036854775807)
    (hs : wrap64 (wrap64 (h1 + h2) + (l1 + l2) / 18446744073709551616) = s) (h : (h1 < 0 ∧ 0 ≤ h2) ∨ (0 ≤ h1 ∧ h2 < 0) ∨ (h1 < 0 ∧ h2 < 0 ∧ s < 0) ∨ (0 ≤ h1 ∧ 0 ≤ h2 ∧ 0 ≤ s)) :
    s = hi (clamp (h1 * 18446744073709551616 + l1 + (h2 * 18446744073709551616 + l2))) ∧ (l1 + l2) % 18446744073709551616 = lo (clamp (h1 * 18446744073709551616 + l1 + (h2 * 18446744073709551616 + l2))) := by
  simp only [wrap64] at hs
  rw [clamp_of (by unfold InR; omega)]
  unfold hi lo; omega
theorem add_low {h1 l1 h2 l2 s : Int} (a0 : 0 ≤ l1) (a1 : l1 ≤ 18446744073709551615) (b0 : 0 ≤ l2) (b1 : l2 ≤ 18446744073709551615)
    (c0 : -9223372036854775808 ≤ h1) (d0 : -9223372036854775808 ≤ h2)
    (hs : wrap64 (wrap64 (h1 + h2) + (l1 + l2) / 18446744073709551616) = s) (g1 : h1 < 0) (g2 : h2 < 0) (g3 : 0 ≤ s) :
    -9223372036854775808 = hi (clamp (h1 * 18446744073709551616 + l1 + (h2 * 18446744073709551616 + l2))) ∧ 0 = lo (clamp (h1 * 18446744073709551616 + l1 + (h2 * 18446744073709551616 + l2))) := by
  simp only [wrap64] at hs
  have : clamp (h1 * 18446744073709551616 + l1 + (h2 * 18446744073709551616 + l2)) = -170141183460469231731687303715884105728 := by
    unfold clamp; rw [if_pos (by omega)]
  rw [this]; unfold hi lo; omega
theorem add_high {h1 l1 h2 l2 s : Int} (a0 : 0 ≤ l1) (a1 : l1 ≤ 18446744073709551615) (b0 : 0 ≤ l2) (b1 : l2 ≤ 18446744073709551615)
    (c1 : h1 ≤ 9223372036854775807) (d1 : h2 ≤ 9223372036854775807)
    (hs : wrap64 (wrap64 (h1 + h2) + (l1 + l2) / 18446744073709551616) = s) (g1 : 0 ≤ h1) (g2 : 0 ≤ h2) (g3 : s < 0) :
    9223372036854775807 = hi (clamp (h1 * 18446744073709551616 + l1 + (h2 * 18446744073709551616 + l2))) ∧ 18446744073709551615 = lo (clamp (h1 * 18446744073709551616 + l1 + (h2 * 18446744073709551616 + l2))) := by
  simp only [wrap64] at hs
  have : clamp (h1 * 18446744073709551616 + l1 + (h2 * 18446744073709551616 + l2)) = 170141183460469231731687303715884105727 := by
    unfold clamp; rw [if_neg (by omega), if_pos (by omega)]
  rw [this]; unfold hi lo; omega

/-- The same for differences. -/
theorem sub_fits {h1 l1 h2 l2 bw s : Int} (a0 : 0 ≤ l1) (a1 : l1 ≤ 18446744073709551615) (b0 : 0 ≤ l2) (b1 : l2 ≤ 18446744073709551615)
    (c0 : -9223372036854775808 ≤ h1) (c1 : h1 ≤ 9223372036854775807) (d0 : -9223372036854775808 ≤ h2) (d1 : h2 ≤ 9223372036854775807)
    (hs : wrap64 (wrap64 (h1 - h2) - bw) = s) (hb : bw = if l1 < l2 then 1 else 0) (h : (h1 < 0 ∧ h2 < 0) ∨ (0 ≤ h1 ∧ 0 ≤ h2) ∨ (h1 < 0 ∧ 0 ≤ h2 ∧ s < 0) ∨ (0 ≤ h1 ∧ h2 < 0 ∧ 0 ≤ s)) :
    s = hi (clamp (h1 * 18446744073709551616 + l1 - (h2 * 18446744073709551616 + l2))) ∧ (l1 + 18446744073709551616 - l2) % 18446744073709551616 = lo (clamp (h1 * 18446744073709551616 + l1 - (h2 * 18446744073709551616 + l2))) := by
  simp only [wrap64] at hs
  rw [clamp_of (by unfold InR; split at hb <;> omega)]
  unfold hi lo; split at hb <;> omega
theorem sub_low {h1 l1 h2 l2 bw s : Int} (a0 : 0 ≤ l1) (a1 : l1 ≤ 18446744073709551615) (b0 : 0 ≤ l2) (b1 : l2 ≤ 18446744073709551615)
    (c0 : -9223372036854775808 ≤ h1) (d1 : h2 ≤ 9223372036854775807)
    (hs : wrap64 (wrap64 (h1 - h2) - bw) = s) (hb : bw = if l1 < l2 then 1 else 0) (g1 : h1 < 0) (g2 : 0 ≤ h2) (g3 : 0 ≤ s) :
    -9223372036854775808 = hi (clamp (h1 * 18446744073709551616 + l1 - (h2 * 18446744073709551616 + l2))) ∧ 0 = lo (clamp (h1 * 18446744073709551616 + l1 - (h2 * 18446744073709551616 + l2))) := by
  simp only [wrap64] at hs
  have : clamp (h1 * 18446744073709551616 + l1 - (h2 * 18446744073709551616 + l2)) = -170141183460469231731687303715884105728 := by
    unfold clamp; split at hb <;> rw [if_pos (by omega)]
  rw [this]; unfold hi lo; omega
theorem sub_high {h1 l1 h2 l2 bw s : Int} (a0 : 0 ≤ l1) (a1 : l1 ≤ 18446744073709551615) (b0 : 0 ≤ l2) (b1 : l2 ≤ 18446744073709551615)
    (c1 : h1 ≤ 9223372036854775807) (d0 : -9223372036854775808 ≤ h2)
    (hs : wrap64 (wrap64 (h1 - h2) - bw) = s) (hb : bw = if l1 < l2 then 1 else 0) (g1 : 0 ≤ h1) (g2 : h2 < 0) (g3 : s < 0) :
    9223372036854775807 = hi (clamp (h1 * 18446744073709551616 + l1 - (h2 * 18446744073709551616 + l2))) ∧ 18446744073709551615 = lo (clamp (h1 * 18446744073709551616 + l1 - (h2 * 18446744073709551616 + l2))) := by
  simp only [wrap64] at hs
  have : clamp (h1 * 18446744073709551616 + l1 - (h2 * 18446744073709551616 + l2)) = 170141183460469231731687303715884105727 := by
    unfold clamp; split at hb <;> rw [if_neg (by omega), if_pos (by omega)]
  rw [this]; unfold hi lo; omega


set_option maxHeartbeats 4000000 in
theorem add_any (h1 l1 h2 l2 : Int) (a0 : 0 ≤ l1) (a1 : l1 ≤ 18446744073709551615) (b0 : 0 ≤ l2) (b1 : l2 ≤ 18446744073709551615)
    (c0 : -9223372036854775808 ≤ h1) (c1 : h1 ≤ 9223372036854775807) (d0 : -9223372036854775808 ≤ h2) (d1 : h2 ≤ 9223372036854775807) (w : World) :
    Calls Try.prog 18 #[.agg #[.int .i64 h1, .int .u64 l1], .agg #[.int .i64 h2, .int .u64 l2]] w fun e w' =>
      e = .returned (.agg #[.int .i64 (hi (clamp (h1 * 18446744073709551616 + l1 + (h2 * 18446744073709551616 + l2)))), .int .u64 (lo (clamp (h1 * 18446744073709551616 + l1 + (h2 * 18446744073709551616 + l2))))]) ∧ Below w.heap.size w w' := by
  skip
  have hadd := fun w => run_add64 l1 l2 0 a0 b0 (by omega) (by omega) w
  have q1 := fun (w' : World) (h : Blk w' w.heap.size #[.int .i64 h1, .int .u64 l1] 24) => h.two
  have q2 := fun (w' : World) (h : Blk w' (w.heap.size + 1) #[.int .i64 h2, .int .u64 l2] 24) => h.two
  have q3 := fun (w' : World) (h : Blk w' (w.heap.size + 1 + 1) #[.int .i64 0, .int .u64 0] 24) => h.two
  have q4 := fun (w' : World) (h : Blk w' (w.heap.size + 1 + 1) #[.int .i64 0, .int .u64 0] 24) => h.free0
  skip
  rcases hd1 : decide (h1 < 0) with _ | _ <;> rcases hd2 : decide (h2 < 0) with _ | _
  · skip
    go_enter Try.func18, Try.ntmps18
    go_wp2
    generalize hs : wrap64 (wrap64 (h1 + h2) + (l1 + l2) / 18446744073709551616) = s
    have Hs := Lib.hid hs; clear hs
    rcases hd3 : decide (s < 0) with _ | _
    · skip
      refine wp_region_held_drew (S := (fun w' => Blk w' w.heap.size #[.int .i64 h1, .int .u64 l1] 24 ∧ Blk w' (w.heap.size + 1) #[.int .i64 h2, .int .u64 l2] 24 ∧ Blk w' (w.heap.size + 1 + 1) #[.int .i64 0, .int .u64 0] 24 ∧ Below w.heap.size w w')) (by kernel_rfl) ?_ (fun hHeld => ?_)
      · exact ⟨(((Blk.new rfl).old _).old _).drew, ((Blk.new (by simp)).old _).drew, (Blk.new (by simp)).drew, ((((Below.refl _ _).alloc (Nat.le_refl _) _).alloc (by simp) _).alloc (by simp; omega) _).drew⟩
      refine H.take 0 (v := ?_) rfl (by kernel_rfl) (fun _ _ _ h => h) (by rfl) ?_ (by assumption) ?_
      rotate_left
      · (intro wz hSw; (try dsimp only at hSw); go_simp <;> with_reducible rfl)
      try simp only [Act.put, List.setIfInBounds_toArray, List.set_cons_zero, List.set_cons_succ]
      refine H.take 2 (v := ?_) rfl (by kernel_rfl) (fun _ _ _ h => h) (by rfl) ?_ (by assumption) ?_
      rotate_left
      · (intro wz hSw; (try dsimp only at hSw); go_simp <;> with_reducible rfl)
      try simp only [Act.put, List.setIfInBounds_toArray, List.set_cons_zero, List.set_cons_succ]
      refine H.ready [1] (by kernel_rfl) (by simp) ?_
      refine H.one rfl (by rfl) (fun K hK => ?_) AllReadyH.nil
      go_simp
      go_at_call 58
      refine (negative_any _ _ _).mono ?_
      rintro e w' ⟨rfl, hb⟩
      refine hK.out _ _ ?_ (fun hHeld2 => ?_)
      · exact ⟨Blk.keep hb hHeld.1, Blk.keep hb hHeld.2.1, Blk.keep hb hHeld.2.2.1, hHeld.2.2.2.trans (hb.mono hHeld.2.2.2.size)⟩
      clear hHeld hK K; have hHeld := hHeld2; clear hHeld2
      try simp only [Act.put, List.setIfInBounds_toArray, List.set_cons_zero, List.set_cons_succ]
      refine H.ready [3] (by kernel_rfl) (by simp) ?_
      refine H.one rfl (by rfl) (fun K hK => ?_) AllReadyH.nil
      go_simp
      go_at_call 58
      refine (negative_any _ _ _).mono ?_
      rintro e w' ⟨rfl, hb⟩
      refine hK.out _ _ ?_ (fun hHeld2 => ?_)
      · exact ⟨Blk.keep hb hHeld.1, Blk.keep hb hHeld.2.1, Blk.keep hb hHeld.2.2.1, hHeld.2.2.2.trans (hb.mono hHeld.2.2.2.size)⟩
      clear hHeld hK K; have hHeld := hHeld2; clear hHeld2
      try simp only [Act.put, List.setIfInBounds_toArray, List.set_cons_zero, List.set_cons_succ]
      refine H.take 4 (v := ?_) rfl (by kernel_rfl) (fun _ _ _ h => h) (by rfl) ?_ (by assumption) ?_
      rotate_left
      · (intro wz hSw; (try dsimp only at hSw); go_simp <;> with_reducible rfl)
      try simp only [Act.put, List.setIfInBounds_toArray, List.set_cons_zero, List.set_cons_succ]
      refine H.take 5 (v := ?_) rfl (by kernel_rfl) (fun _ _ _ h => h) (by rfl) ?_ (by assumption) ?_
      rotate_left
      · (intro wz hSw; (try dsimp only at hSw); go_simp <;> with_reducible rfl)
      try simp only [Act.put, List.setIfInBounds_toArray, List.set_cons_zero, List.set_cons_succ]
      refine H.take 6 (v := ?_) rfl (by kernel_rfl) (fun _ _ _ h => h) (by rfl) ?_ (by assumption) ?_
      rotate_left
      · (intro wz hSw; (try dsimp only at hSw); go_simp <;> with_reducible rfl)
      try simp only [Act.put, List.setIfInBounds_toArray, List.set_cons_zero, List.set_cons_succ]
      refine H.take 7 (v := ?_) rfl (by kernel_rfl) (fun _ _ _ h => h) (by rfl) ?_ (by assumption) ?_
      rotate_left
      · (intro wz hSw; (try dsimp only at hSw); go_simp <;> with_reducible rfl)
      try simp only [Act.put, List.setIfInBounds_toArray, List.set_cons_zero, List.set_cons_succ]
      refine H.take 8 (v := ?_) rfl (by kernel_rfl) (fun _ _ _ h => h) (by rfl) ?_ (by assumption) ?_
      rotate_left
      · (intro wz hSw; (try dsimp only at hSw); go_simp <;> with_reducible rfl)
      try simp only [Act.put, List.setIfInBounds_toArray, List.set_cons_zero, List.set_cons_succ]
      refine H.ready [9] (by kernel_rfl) (by simp) ?_
      refine H.one rfl (by rfl) (fun K hK => ?_) AllReadyH.nil
      go_simp
      go_at_call 58
      refine (negative_any _ _ _).mono ?_
      rintro e w' ⟨rfl, hb⟩
      refine hK.out _ _ ?_ (fun hHeld2 => ?_)
      · exact ⟨Blk.keep hb hHeld.1, Blk.keep hb hHeld.2.1, Blk.keep hb hHeld.2.2.1, hHeld.2.2.2.trans (hb.mono hHeld.2.2.2.size)⟩
      clear hHeld hK K; have hHeld := hHeld2; clear hHeld2
      try simp only [Act.put, List.setIfInBounds_toArray, List.set_cons_zero, List.set_cons_succ]
      refine H.take 10 (v := ?_) rfl (by kernel_rfl) (fun _ _ _ h => h) (by rfl) ?_ (by assumption) ?_
      rotate_left
      · (intro wz hSw; (try dsimp only at hSw); go_simp <;> with_reducible rfl)
      try simp only [Act.put, List.setIfInBounds_toArray, List.set_cons_zero, List.set_cons_succ]
      refine H.take 11 (v := ?_) rfl (by kernel_rfl) (fun _ _ _ h => h) (by rfl) ?_ (by assumption) ?_
      rotate_left
      · (intro wz hSw; (try dsimp only at hSw); go_simp <;> with_reducible rfl)
      try simp only [Act.put, List.setIfInBounds_toArray, List.set_cons_zero, List.set_cons_succ]
      refine H.done (by kernel_rfl) ?_ _
      obtain ⟨g1, g2, g3, g4⟩ := hHeld
      have e1 := of_decide_eq_false hd1; have e2 := of_decide_eq_false hd2
      go_wp2_with (first | (go_at_call 58; refine (negative_any _ _ _).mono ?_; rintro e w' ⟨rfl, hb⟩; replace g3 := Blk.keep hb g3; replace g4 := g4.trans (hb.mono g4.size)) | (go_at_call 59; refine (bound_low _).mono ?_; rintro e w' ⟨rfl, hb⟩; replace g3 := Blk.keep hb g3; replace g4 := g4.trans (hb.mono g4.size)) | (go_at_call 59; refine (bound_high _).mono ?_; rintro e w' ⟨rfl, hb⟩; replace g3 := Blk.keep hb g3; replace g4 := g4.trans (hb.mono g4.size)))
      have e3 := of_decide_eq_false hd3
      have hfin := (g3.put (i := 0) (.int .i64 s)).put (i := 1) (.int .u64 ((l1 + l2) % 18446744073709551616))
      have hres := add_fits a0 a1 b0 b1 c0 c1 d0 d1 Hs.out (by omega)
      exact bodyPost_ret (v := .agg #[.int .i64 s, .int .u64 ((l1 + l2) % 18446744073709551616)]) (by simp [results, Try.results18, go_sem, (show Blk _ _ #[.int .i64 s, .int .u64 ((l1 + l2) % 18446744073709551616)] _ from hfin).two]) rfl ⟨ret_w hres.1 hres.2, (g4.setCell (by simp; omega) _).setCell (by simp; omega) _⟩
    · skip
      refine wp_region_held_drew (S := (fun w' => Blk w' w.heap.size #[.int .i64 h1, .int .u64 l1] 24 ∧ Blk w' (w.heap.size + 1) #[.int .i64 h2, .int .u64 l2] 24 ∧ Blk w' (w.heap.size + 1 + 1) #[.int .i64 0, .int .u64 0] 24 ∧ Below w.heap.size w w')) (by kernel_rfl) ?_ (fun hHeld => ?_)
      · exact ⟨(((Blk.new rfl).old _).old _).drew, ((Blk.new (by simp)).old _).drew, (Blk.new (by simp)).drew, ((((Below.refl _ _).alloc (Nat.le_refl _) _).alloc (by simp) _).alloc (by simp; omega) _).drew⟩
      refine H.take 0 (v := ?_) rfl (by kernel_rfl) (fun _ _ _ h => h) (by rfl) ?_ (by assumption) ?_
      rotate_left
      · (intro wz hSw; (try dsimp only at hSw); go_simp <;> with_reducible rfl)
      try simp only [Act.put, List.setIfInBounds_toArray, List.set_cons_zero, List.set_cons_succ]
      refine H.take 2 (v := ?_) rfl (by kernel_rfl) (fun _ _ _ h => h) (by rfl) ?_ (by assumption) ?_
      rotate_left
      · (intro wz hSw; (try dsimp only at hSw); go_simp <;> with_reducible rfl)
      try simp only [Act.put, List.setIfInBounds_toArray, List.set_cons_zero, List.set_cons_succ]
      refine H.ready [1] (by kernel_rfl) (by simp) ?_
      refine H.one rfl (by rfl) (fun K hK => ?_) AllReadyH.nil
      go_simp
      go_at_call 58
      refine (negative_any _ _ _).mono ?_
      rintro e w' ⟨rfl, hb⟩
      refine hK.out _ _ ?_ (fun hHeld2 => ?_)
      · exact ⟨Blk.keep hb hHeld.1, Blk.keep hb hHeld.2.1, Blk.keep hb hHeld.2.2.1, hHeld.2.2.2.trans (hb.mono hHeld.2.2.2.size)⟩
      clear hHeld hK K; have hHeld := hHeld2; clear hHeld2
      try simp only [Act.put, List.setIfInBounds_toArray, List.set_cons_zero, List.set_cons_succ]
      refine H.ready [3] (by kernel_rfl) (by simp) ?_
      refine H.one rfl (by rfl) (fun K hK => ?_) AllReadyH.nil
      go_simp
      go_at_call 58
      refine (negative_any _ _ _).mono ?_
      rintro e w' ⟨rfl, hb⟩
      refine hK.out _ _ ?_ (fun hHeld2 => ?_)
      · exact ⟨Blk.keep hb hHeld.1, Blk.keep hb hHeld.2.1, Blk.keep hb hHeld.2.2.1, hHeld.2.2.2.trans (hb.mono hHeld.2.2.2.size)⟩
      clear hHeld hK K; have hHeld := hHeld2; clear hHeld2
      try simp only [Act.put, List.setIfInBounds_toArray, List.set_cons_zero, List.set_cons_succ]
      refine H.take 4 (v := ?_) rfl (by kernel_rfl) (fun _ _ _ h => h) (by rfl) ?_ (by assumption) ?_
      rotate_left
      · (intro wz hSw; (try dsimp only at hSw); go_simp <;> with_reducible rfl)
      try simp only [Act.put, List.setIfInBounds_toArray, List.set_cons_zero, List.set_cons_succ]
      refine H.take 5 (v := ?_) rfl (by kernel_rfl) (fun _ _ _ h => h) (by rfl) ?_ (by assumption) ?_
      rotate_left
      · (intro wz hSw; (try dsimp only at hSw); go_simp <;> with_reducible rfl)
      try simp only [Act.put, List.setIfInBounds_toArray, List.set_cons_zero, List.set_cons_succ]
      refine H.take 6 (v := ?_) rfl (by kernel_rfl) (fun _ _ _ h => h) (by rfl) ?_ (by assumption) ?_
      rotate_left
      · (intro wz hSw; (try dsimp only at hSw); go_simp <;> with_reducible rfl)
      try simp only [Act.put, List.setIfInBounds_toArray, List.set_cons_zero, List.set_cons_succ]
      refine H.take 7 (v := ?_) rfl (by kernel_rfl) (fun _ _ _ h => h) (by rfl) ?_ (by assumption) ?_
      rotate_left
      · (intro wz hSw; (try dsimp only at hSw); go_simp <;> with_reducible rfl)
      try simp only [Act.put, List.setIfInBounds_toArray, List.set_cons_zero, List.set_cons_succ]
      refine H.take 8 (v := ?_) rfl (by kernel_rfl) (fun _ _ _ h => h) (by rfl) ?_ (by assumption) ?_
      rotate_left
      · (intro wz hSw; (try dsimp only at hSw); go_simp <;> with_reducible rfl)
      try simp only [Act.put, List.setIfInBounds_toArray, List.set_cons_zero, List.set_cons_succ]
      refine H.ready [9] (by kernel_rfl) (by simp) ?_
      refine H.one rfl (by rfl) (fun K hK => ?_) AllReadyH.nil
      go_simp
      go_at_call 58
      refine (negative_any _ _ _).mono ?_
      rintro e w' ⟨rfl, hb⟩
      refine hK.out _ _ ?_ (fun hHeld2 => ?_)
      · exact ⟨Blk.keep hb hHeld.1, Blk.keep hb hHeld.2.1, Blk.keep hb hHeld.2.2.1, hHeld.2.2.2.trans (hb.mono hHeld.2.2.2.size)⟩
      clear hHeld hK K; have hHeld := hHeld2; clear hHeld2
      try simp only [Act.put, List.setIfInBounds_toArray, List.set_cons_zero, List.set_cons_succ]
      refine H.take 10 (v := ?_) rfl (by kernel_rfl) (fun _ _ _ h => h) (by rfl) ?_ (by assumption) ?_
      rotate_left
      · (intro wz hSw; (try dsimp only at hSw); go_simp <;> with_reducible rfl)
      try simp only [Act.put, List.setIfInBounds_toArray, List.set_cons_zero, List.set_cons_succ]
      refine H.take 11 (v := ?_) rfl (by kernel_rfl) (fun _ _ _ h => h) (by rfl) ?_ (by assumption) ?_
      rotate_left
      · (intro wz hSw; (try dsimp only at hSw); go_simp <;> with_reducible rfl)
      try simp only [Act.put, List.setIfInBounds_toArray, List.set_cons_zero, List.set_cons_succ]
      refine H.done (by kernel_rfl) ?_ _
      obtain ⟨g1, g2, g3, g4⟩ := hHeld
      have e1 := of_decide_eq_false hd1; have e2 := of_decide_eq_false hd2
      go_wp2_with (first | (go_at_call 58; refine (negative_any _ _ _).mono ?_; rintro e w' ⟨rfl, hb⟩; replace g3 := Blk.keep hb g3; replace g4 := g4.trans (hb.mono g4.size)) | (go_at_call 59; refine (bound_low _).mono ?_; rintro e w' ⟨rfl, hb⟩; replace g3 := Blk.keep hb g3; replace g4 := g4.trans (hb.mono g4.size)) | (go_at_call 59; refine (bound_high _).mono ?_; rintro e w' ⟨rfl, hb⟩; replace g3 := Blk.keep hb g3; replace g4 := g4.trans (hb.mono g4.size)))
      have e3 := of_decide_eq_true hd3
      have hfin := (g3.put (i := 0) (.int .i64 9223372036854775807)).put (i := 1) (.int .u64 18446744073709551615)
      have hres := add_high a0 a1 b0 b1 (by omega) (by omega) Hs.out (by omega) (by omega) (by omega)
      exact bodyPost_ret (v := .agg #[.int .i64 9223372036854775807, .int .u64 18446744073709551615]) (by simp [results, Try.results18, go_sem, (show Blk _ _ #[.int .i64 9223372036854775807, .int .u64 18446744073709551615] _ from hfin).two]) rfl ⟨ret_w hres.1 hres.2, (g4.setCell (by simp; omega) _).setCell (by simp; omega) _⟩
  · skip
    go_enter Try.func18, Try.ntmps18
    go_wp2
    generalize hs : wrap64 (wrap64 (h1 + h2) + (l1 + l2) / 18446744073709551616) = s
    have Hs := Lib.hid hs; clear hs
    refine wp_region_held_drew (S := (fun w' => Blk w' w.heap.size #[.int .i64 h1, .int .u64 l1] 24 ∧ Blk w' (w.heap.size + 1) #[.int .i64 h2, .int .u64 l2] 24 ∧ Blk w' (w.heap.size + 1 + 1) #[.int .i64 0, .int .u64 0] 24 ∧ Below w.heap.size w w')) (by kernel_rfl) ?_ (fun hHeld => ?_)
    · exact ⟨(((Blk.new rfl).old _).old _).drew, ((Blk.new (by simp)).old _).drew, (Blk.new (by simp)).drew, ((((Below.refl _ _).alloc (Nat.le_refl _) _).alloc (by simp) _).alloc (by simp; omega) _).drew⟩
    refine H.take 0 (v := ?_) rfl (by kernel_rfl) (fun _ _ _ h => h) (by rfl) ?_ (by assumption) ?_
    rotate_left
    · (intro wz hSw; (try dsimp only at hSw); go_simp <;> with_reducible rfl)
    try simp only [Act.put, List.setIfInBounds_toArray, List.set_cons_zero, List.set_cons_succ]
    refine H.take 2 (v := ?_) rfl (by kernel_rfl) (fun _ _ _ h => h) (by rfl) ?_ (by assumption) ?_
    rotate_left
    · (intro wz hSw; (try dsimp only at hSw); go_simp <;> with_reducible rfl)
    try simp only [Act.put, List.setIfInBounds_toArray, List.set_cons_zero, List.set_cons_succ]
    refine H.ready [1] (by kernel_rfl) (by simp) ?_
    refine H.one rfl (by rfl) (fun K hK => ?_) AllReadyH.nil
    go_simp
    go_at_call 58
    refine (negative_any _ _ _).mono ?_
    rintro e w' ⟨rfl, hb⟩
    refine hK.out _ _ ?_ (fun hHeld2 => ?_)
    · exact ⟨Blk.keep hb hHeld.1, Blk.keep hb hHeld.2.1, Blk.keep hb hHeld.2.2.1, hHeld.2.2.2.trans (hb.mono hHeld.2.2.2.size)⟩
    clear hHeld hK K; have hHeld := hHeld2; clear hHeld2
    try simp only [Act.put, List.setIfInBounds_toArray, List.set_cons_zero, List.set_cons_succ]
    refine H.ready [3] (by kernel_rfl) (by simp) ?_
    refine H.one rfl (by rfl) (fun K hK => ?_) AllReadyH.nil
    go_simp
    go_at_call 58
    refine (negative_any _ _ _).mono ?_
    rintro e w' ⟨rfl, hb⟩
    refine hK.out _ _ ?_ (fun hHeld2 => ?_)
    · exact ⟨Blk.keep hb hHeld.1, Blk.keep hb hHeld.2.1, Blk.keep hb hHeld.2.2.1, hHeld.2.2.2.trans (hb.mono hHeld.2.2.2.size)⟩
    clear hHeld hK K; have hHeld := hHeld2; clear hHeld2
    try simp only [Act.put, List.setIfInBounds_toArray, List.set_cons_zero, List.set_cons_succ]
    refine H.take 4 (v := ?_) rfl (by kernel_rfl) (fun _ _ _ h => h) (by rfl) ?_ (by assumption) ?_
    rotate_left
    · (intro wz hSw; (try dsimp only at hSw); go_simp <;> with_reducible rfl)
    try simp only [Act.put, List.setIfInBounds_toArray, List.set_cons_zero, List.set_cons_succ]
    refine H.take 5 (v := ?_) rfl (by kernel_rfl) (fun _ _ _ h => h) (by rfl) ?_ (by assumption) ?_
    rotate_left
    · (intro wz hSw; (try dsimp only at hSw); go_simp <;> with_reducible rfl)
    try simp only [Act.put, List.setIfInBounds_toArray, List.set_cons_zero, List.set_cons_succ]
    refine H.skip 6 rfl (by kernel_rfl) (fun _ _ _ h => h) (by rfl) (by assumption) ?_
    try simp only [Act.put, List.setIfInBounds_toArray, List.set_cons_zero, List.set_cons_succ]
    refine H.skip 7 rfl (by kernel_rfl) (fun _ _ _ h => h) (by rfl) (by assumption) ?_
    try simp only [Act.put, List.setIfInBounds_toArray, List.set_cons_zero, List.set_cons_succ]
    refine H.skip 8 rfl (by kernel_rfl) (fun _ _ _ h => h) (by rfl) (by assumption) ?_
    try simp only [Act.put, List.setIfInBounds_toArray, List.set_cons_zero, List.set_cons_succ]
    refine H.skip 9 rfl (by kernel_rfl) (fun _ _ _ h => h) (by rfl) (by assumption) ?_
    try simp only [Act.put, List.setIfInBounds_toArray, List.set_cons_zero, List.set_cons_succ]
    refine H.skip 10 rfl (by kernel_rfl) (fun _ _ _ h => h) (by rfl) (by assumption) ?_
    try simp only [Act.put, List.setIfInBounds_toArray, List.set_cons_zero, List.set_cons_succ]
    refine H.take 11 (v := ?_) rfl (by kernel_rfl) (fun _ _ _ h => h) (by rfl) ?_ (by assumption) ?_
    rotate_left
    · (intro wz hSw; (try dsimp only at hSw); go_simp <;> with_reducible rfl)
    try simp only [Act.put, List.setIfInBounds_toArray, List.set_cons_zero, List.set_cons_succ]
    refine H.done (by kernel_rfl) ?_ _
    obtain ⟨g1, g2, g3, g4⟩ := hHeld
    have e1 := of_decide_eq_false hd1; have e2 := of_decide_eq_true hd2
    go_wp2_with (first | (go_at_call 58; refine (negative_any _ _ _).mono ?_; rintro e w' ⟨rfl, hb⟩; replace g3 := Blk.keep hb g3; replace g4 := g4.trans (hb.mono g4.size)) | (go_at_call 59; refine (bound_low _).mono ?_; rintro e w' ⟨rfl, hb⟩; replace g3 := Blk.keep hb g3; replace g4 := g4.trans (hb.mono g4.size)) | (go_at_call 59; refine (bound_high _).mono ?_; rintro e w' ⟨rfl, hb⟩; replace g3 := Blk.keep hb g3; replace g4 := g4.trans (hb.mono g4.size)))
    have hfin := (g3.put (i := 0) (.int .i64 s)).put (i := 1) (.int .u64 ((l1 + l2) % 18446744073709551616))
    have hres := add_fits a0 a1 b0 b1 c0 c1 d0 d1 Hs.out (by omega)
    exact bodyPost_ret (v := .agg #[.int .i64 s, .int .u64 ((l1 + l2) % 18446744073709551616)]) (by simp [results, Try.results18, go_sem, (show Blk _ _ #[.int .i64 s, .int .u64 ((l1 + l2) % 18446744073709551616)] _ from hfin).two]) rfl ⟨ret_w hres.1 hres.2, (g4.setCell (by simp; omega) _).setCell (by simp; omega) _⟩
  · skip
    go_enter Try.func18, Try.ntmps18
    go_wp2
    generalize hs : wrap64 (wrap64 (h1 + h2) + (l1 + l2) / 18446744073709551616) = s
    have Hs := Lib.hid hs; clear hs
    refine wp_region_held_drew (S := (fun w' => Blk w' w.heap.size #[.int .i64 h1, .int .u64 l1] 24 ∧ Blk w' (w.heap.size + 1) #[.int .i64 h2, .int .u64 l2] 24 ∧ Blk w' (w.heap.size + 1 + 1) #[.int .i64 0, .int .u64 0] 24 ∧ Below w.heap.size w w')) (by kernel_rfl) ?_ (fun hHeld => ?_)
    · exact ⟨(((Blk.new rfl).old _).old _).drew, ((Blk.new (by simp)).old _).drew, (Blk.new (by simp)).drew, ((((Below.refl _ _).alloc (Nat.le_refl _) _).alloc (by simp) _).alloc (by simp; omega) _).drew⟩
    refine H.take 0 (v := ?_) rfl (by kernel_rfl) (fun _ _ _ h => h) (by rfl) ?_ (by assumption) ?_
    rotate_left
    · (intro wz hSw; (try dsimp only at hSw); go_simp <;> with_reducible rfl)
    try simp only [Act.put, List.setIfInBounds_toArray, List.set_cons_zero, List.set_cons_succ]
    refine H.take 2 (v := ?_) rfl (by kernel_rfl) (fun _ _ _ h => h) (by rfl) ?_ (by assumption) ?_
    rotate_left
    · (intro wz hSw; (try dsimp only at hSw); go_simp <;> with_reducible rfl)
    try simp only [Act.put, List.setIfInBounds_toArray, List.set_cons_zero, List.set_cons_succ]
    refine H.ready [1] (by kernel_rfl) (by simp) ?_
    refine H.one rfl (by rfl) (fun K hK => ?_) AllReadyH.nil
    go_simp
    go_at_call 58
    refine (negative_any _ _ _).mono ?_
    rintro e w' ⟨rfl, hb⟩
    refine hK.out _ _ ?_ (fun hHeld2 => ?_)
    · exact ⟨Blk.keep hb hHeld.1, Blk.keep hb hHeld.2.1, Blk.keep hb hHeld.2.2.1, hHeld.2.2.2.trans (hb.mono hHeld.2.2.2.size)⟩
    clear hHeld hK K; have hHeld := hHeld2; clear hHeld2
    try simp only [Act.put, List.setIfInBounds_toArray, List.set_cons_zero, List.set_cons_succ]
    refine H.ready [3] (by kernel_rfl) (by simp) ?_
    refine H.one rfl (by rfl) (fun K hK => ?_) AllReadyH.nil
    go_simp
    go_at_call 58
    refine (negative_any _ _ _).mono ?_
    rintro e w' ⟨rfl, hb⟩
    refine hK.out _ _ ?_ (fun hHeld2 => ?_)
    · exact ⟨Blk.keep hb hHeld.1, Blk.keep hb hHeld.2.1, Blk.keep hb hHeld.2.2.1, hHeld.2.2.2.trans (hb.mono hHeld.2.2.2.size)⟩
    clear hHeld hK K; have hHeld := hHeld2; clear hHeld2
    try simp only [Act.put, List.setIfInBounds_toArray, List.set_cons_zero, List.set_cons_succ]
    refine H.take 4 (v := ?_) rfl (by kernel_rfl) (fun _ _ _ h => h) (by rfl) ?_ (by assumption) ?_
    rotate_left
    · (intro wz hSw; (try dsimp only at hSw); go_simp <;> with_reducible rfl)
    try simp only [Act.put, List.setIfInBounds_toArray, List.set_cons_zero, List.set_cons_succ]
    refine H.take 5 (v := ?_) rfl (by kernel_rfl) (fun _ _ _ h => h) (by rfl) ?_ (by assumption) ?_
    rotate_left
    · (intro wz hSw; (try dsimp only at hSw); go_simp <;> with_reducible rfl)
    try simp only [Act.put, List.setIfInBounds_toArray, List.set_cons_zero, List.set_cons_succ]
    refine H.skip 6 rfl (by kernel_rfl) (fun _ _ _ h => h) (by rfl) (by assumption) ?_
    try simp only [Act.put, List.setIfInBounds_toArray, List.set_cons_zero, List.set_cons_succ]
    refine H.skip 7 rfl (by kernel_rfl) (fun _ _ _ h => h) (by rfl) (by assumption) ?_
    try simp only [Act.put, List.setIfInBounds_toArray, List.set_cons_zero, List.set_cons_succ]
    refine H.skip 8 rfl (by kernel_rfl) (fun _ _ _ h => h) (by rfl) (by assumption) ?_
    try simp only [Act.put, List.setIfInBounds_toArray, List.set_cons_zero, List.set_cons_succ]
    refine H.skip 9 rfl (by kernel_rfl) (fun _ _ _ h => h) (by rfl) (by assumption) ?_
    try simp only [Act.put, List.setIfInBounds_toArray, List.set_cons_zero, List.set_cons_succ]
    refine H.skip 10 rfl (by kernel_rfl) (fun _ _ _ h => h) (by rfl) (by assumption) ?_
    try simp only [Act.put, List.setIfInBounds_toArray, List.set_cons_zero, List.set_cons_succ]
    refine H.take 11 (v := ?_) rfl (by kernel_rfl) (fun _ _ _ h => h) (by rfl) ?_ (by assumption) ?_
    rotate_left
    · (intro wz hSw; (try dsimp only at hSw); go_simp <;> with_reducible rfl)
    try simp only [Act.put, List.setIfInBounds_toArray, List.set_cons_zero, List.set_cons_succ]
    refine H.done (by kernel_rfl) ?_ _
    obtain ⟨g1, g2, g3, g4⟩ := hHeld
    have e1 := of_decide_eq_true hd1; have e2 := of_decide_eq_false hd2
    go_wp2_with (first | (go_at_call 58; refine (negative_any _ _ _).mono ?_; rintro e w' ⟨rfl, hb⟩; replace g3 := Blk.keep hb g3; replace g4 := g4.trans (hb.mono g4.size)) | (go_at_call 59; refine (bound_low _).mono ?_; rintro e w' ⟨rfl, hb⟩; replace g3 := Blk.keep hb g3; replace g4 := g4.trans (hb.mono g4.size)) | (go_at_call 59; refine (bound_high _).mono ?_; rintro e w' ⟨rfl, hb⟩; replace g3 := Blk.keep hb g3; replace g4 := g4.trans (hb.mono g4.size)))
    have hfin := (g3.put (i := 0) (.int .i64 s)).put (i := 1) (.int .u64 ((l1 + l2) % 18446744073709551616))
    have hres := add_fits a0 a1 b0 b1 c0 c1 d0 d1 Hs.out (by omega)
    exact bodyPost_ret (v := .agg #[.int .i64 s, .int .u64 ((l1 + l2) % 18446744073709551616)]) (by simp [results, Try.results18, go_sem, (show Blk _ _ #[.int .i64 s, .int .u64 ((l1 + l2) % 18446744073709551616)] _ from hfin).two]) rfl ⟨ret_w hres.1 hres.2, (g4.setCell (by simp; omega) _).setCell (by simp; omega) _⟩
  · skip
    go_enter Try.func18, Try.ntmps18
    go_wp2
    generalize hs : wrap64 (wrap64 (h1 + h2) + (l1 + l2) / 18446744073709551616) = s
    have Hs := Lib.hid hs; clear hs
    rcases hd3 : decide (s < 0) with _ | _
    · skip
      refine wp_region_held_drew (S := (fun w' => Blk w' w.heap.size #[.int .i64 h1, .int .u64 l1] 24 ∧ Blk w' (w.heap.size + 1) #[.int .i64 h2, .int .u64 l2] 24 ∧ Blk w' (w.heap.size + 1 + 1) #[.int .i64 0, .int .u64 0] 24 ∧ Below w.heap.size w w')) (by kernel_rfl) ?_ (fun hHeld => ?_)
      · exact ⟨(((Blk.new rfl).old _).old _).drew, ((Blk.new (by simp)).old _).drew, (Blk.new (by simp)).drew, ((((Below.refl _ _).alloc (Nat.le_refl _) _).alloc (by simp) _).alloc (by simp; omega) _).drew⟩
      refine H.take 0 (v := ?_) rfl (by kernel_rfl) (fun _ _ _ h => h) (by rfl) ?_ (by assumption) ?_
      rotate_left
      · (intro wz hSw; (try dsimp only at hSw); go_simp <;> with_reducible rfl)
      try simp only [Act.put, List.setIfInBounds_toArray, List.set_cons_zero, List.set_cons_succ]
      refine H.take 2 (v := ?_) rfl (by kernel_rfl) (fun _ _ _ h => h) (by rfl) ?_ (by assumption) ?_
      rotate_left
      · (intro wz hSw; (try dsimp only at hSw); go_simp <;> with_reducible rfl)
      try simp only [Act.put, List.setIfInBounds_toArray, List.set_cons_zero, List.set_cons_succ]
      refine H.ready [1] (by kernel_rfl) (by simp) ?_
      refine H.one rfl (by rfl) (fun K hK => ?_) AllReadyH.nil
      go_simp
      go_at_call 58
      refine (negative_any _ _ _).mono ?_
      rintro e w' ⟨rfl, hb⟩
      refine hK.out _ _ ?_ (fun hHeld2 => ?_)
      · exact ⟨Blk.keep hb hHeld.1, Blk.keep hb hHeld.2.1, Blk.keep hb hHeld.2.2.1, hHeld.2.2.2.trans (hb.mono hHeld.2.2.2.size)⟩
      clear hHeld hK K; have hHeld := hHeld2; clear hHeld2
      try simp only [Act.put, List.setIfInBounds_toArray, List.set_cons_zero, List.set_cons_succ]
      refine H.ready [3] (by kernel_rfl) (by simp) ?_
      refine H.one rfl (by rfl) (fun K hK => ?_) AllReadyH.nil
      go_simp
      go_at_call 58
      refine (negative_any _ _ _).mono ?_
      rintro e w' ⟨rfl, hb⟩
      refine hK.out _ _ ?_ (fun hHeld2 => ?_)
      · exact ⟨Blk.keep hb hHeld.1, Blk.keep hb hHeld.2.1, Blk.keep hb hHeld.2.2.1, hHeld.2.2.2.trans (hb.mono hHeld.2.2.2.size)⟩
      clear hHeld hK K; have hHeld := hHeld2; clear hHeld2
      try simp only [Act.put, List.setIfInBounds_toArray, List.set_cons_zero, List.set_cons_succ]
      refine H.take 4 (v := ?_) rfl (by kernel_rfl) (fun _ _ _ h => h) (by rfl) ?_ (by assumption) ?_
      rotate_left
      · (intro wz hSw; (try dsimp only at hSw); go_simp <;> with_reducible rfl)
      try simp only [Act.put, List.setIfInBounds_toArray, List.set_cons_zero, List.set_cons_succ]
      refine H.take 5 (v := ?_) rfl (by kernel_rfl) (fun _ _ _ h => h) (by rfl) ?_ (by assumption) ?_
      rotate_left
      · (intro wz hSw; (try dsimp only at hSw); go_simp <;> with_reducible rfl)
      try simp only [Act.put, List.setIfInBounds_toArray, List.set_cons_zero, List.set_cons_succ]
      refine H.take 6 (v := ?_) rfl (by kernel_rfl) (fun _ _ _ h => h) (by rfl) ?_ (by assumption) ?_
      rotate_left
      · (intro wz hSw; (try dsimp only at hSw); go_simp <;> with_reducible rfl)
      try simp only [Act.put, List.setIfInBounds_toArray, List.set_cons_zero, List.set_cons_succ]
      refine H.take 7 (v := ?_) rfl (by kernel_rfl) (fun _ _ _ h => h) (by rfl) ?_ (by assumption) ?_
      rotate_left
      · (intro wz hSw; (try dsimp only at hSw); go_simp <;> with_reducible rfl)
      try simp only [Act.put, List.setIfInBounds_toArray, List.set_cons_zero, List.set_cons_succ]
      refine H.take 8 (v := ?_) rfl (by kernel_rfl) (fun _ _ _ h => h) (by rfl) ?_ (by assumption) ?_
      rotate_left
      · (intro wz hSw; (try dsimp only at hSw); go_simp <;> with_reducible rfl)
      try simp only [Act.put, List.setIfInBounds_toArray, List.set_cons_zero, List.set_cons_succ]
      refine H.ready [9] (by kernel_rfl) (by simp) ?_
      refine H.one rfl (by rfl) (fun K hK => ?_) AllReadyH.nil
      go_simp
      go_at_call 58
      refine (negative_any _ _ _).mono ?_
      rintro e w' ⟨rfl, hb⟩
      refine hK.out _ _ ?_ (fun hHeld2 => ?_)
      · exact ⟨Blk.keep hb hHeld.1, Blk.keep hb hHeld.2.1, Blk.keep hb hHeld.2.2.1, hHeld.2.2.2.trans (hb.mono hHeld.2.2.2.size)⟩
      clear hHeld hK K; have hHeld := hHeld2; clear hHeld2
      try simp only [Act.put, List.setIfInBounds_toArray, List.set_cons_zero, List.set_cons_succ]
      refine H.take 10 (v := ?_) rfl (by kernel_rfl) (fun _ _ _ h => h) (by rfl) ?_ (by assumption) ?_
      rotate_left
      · (intro wz hSw; (try dsimp only at hSw); go_simp <;> with_reducible rfl)
      try simp only [Act.put, List.setIfInBounds_toArray, List.set_cons_zero, List.set_cons_succ]
      refine H.take 11 (v := ?_) rfl (by kernel_rfl) (fun _ _ _ h => h) (by rfl) ?_ (by assumption) ?_
      rotate_left
      · (intro wz hSw; (try dsimp only at hSw); go_simp <;> with_reducible rfl)
      try simp only [Act.put, List.setIfInBounds_toArray, List.set_cons_zero, List.set_cons_succ]
      refine H.done (by kernel_rfl) ?_ _
      obtain ⟨g1, g2, g3, g4⟩ := hHeld
      have e1 := of_decide_eq_true hd1; have e2 := of_decide_eq_true hd2
      go_wp2_with (first | (go_at_call 58; refine (negative_any _ _ _).mono ?_; rintro e w' ⟨rfl, hb⟩; replace g3 := Blk.keep hb g3; replace g4 := g4.trans (hb.mono g4.size)) | (go_at_call 59; refine (bound_low _).mono ?_; rintro e w' ⟨rfl, hb⟩; replace g3 := Blk.keep hb g3; replace g4 := g4.trans (hb.mono g4.size)) | (go_at_call 59; refine (bound_high _).mono ?_; rintro e w' ⟨rfl, hb⟩; replace g3 := Blk.keep hb g3; replace g4 := g4.trans (hb.mono g4.size)))
      have e3 := of_decide_eq_false hd3
      have hfin := (g3.put (i := 0) (.int .i64 (-9223372036854775808))).put (i := 1) (.int .u64 0)
      have hres := add_low a0 a1 b0 b1 (by omega) (by omega) Hs.out (by omega) (by omega) (by omega)
      exact bodyPost_ret (v := .agg #[.int .i64 (-9223372036854775808), .int .u64 0]) (by simp [results, Try.results18, go_sem, (show Blk _ _ #[.int .i64 (-9223372036854775808), .int .u64 0] _ from hfin).two]) rfl ⟨ret_w hres.1 hres.2, (g4.setCell (by simp; omega) _).setCell (by simp; omega) _⟩
    · skip
      refine wp_region_held_drew (S := (fun w' => Blk w' w.heap.size #[.int .i64 h1, .int .u64 l1] 24 ∧ Blk w' (w.heap.size + 1) #[.int .i64 h2, .int .u64 l2] 24 ∧ Blk w' (w.heap.size + 1 + 1) #[.int .i64 0, .int .u64 0] 24 ∧ Below w.heap.size w w')) (by kernel_rfl) ?_ (fun hHeld => ?_)
      · exact ⟨(((Blk.new rfl).old _).old _).drew, ((Blk.new (by simp)).old _).drew, (Blk.new (by simp)).drew, ((((Below.refl _ _).alloc (Nat.le_refl _) _).alloc (by simp) _).alloc (by simp; omega) _).drew⟩
      refine H.take 0 (v := ?_) rfl (by kernel_rfl) (fun _ _ _ h => h) (by rfl) ?_ (by assumption) ?_
      rotate_left
      · (intro wz hSw; (try dsimp only at hSw); go_simp <;> with_reducible rfl)
      try simp only [Act.put, List.setIfInBounds_toArray, List.set_cons_zero, List.set_cons_succ]
      refine H.take 2 (v := ?_) rfl (by kernel_rfl) (fun _ _ _ h => h) (by rfl) ?_ (by assumption) ?_
      rotate_left
      · (intro wz hSw; (try dsimp only at hSw); go_simp <;> with_reducible rfl)
      try simp only [Act.put, List.setIfInBounds_toArray, List.set_cons_zero, List.set_cons_succ]
      refine H.ready [1] (by kernel_rfl) (by simp) ?_
      refine H.one rfl (by rfl) (fun K hK => ?_) AllReadyH.nil
      go_simp
      go_at_call 58
      refine (negative_any _ _ _).mono ?_
      rintro e w' ⟨rfl, hb⟩
      refine hK.out _ _ ?_ (fun hHeld2 => ?_)
      · exact ⟨Blk.keep hb hHeld.1, Blk.keep hb hHeld.2.1, Blk.keep hb hHeld.2.2.1, hHeld.2.2.2.trans (hb.mono hHeld.2.2.2.size)⟩
      clear hHeld hK K; have hHeld := hHeld2; clear hHeld2
      try simp only [Act.put, List.setIfInBounds_toArray, List.set_cons_zero, List.set_cons_succ]
      refine H.ready [3] (by kernel_rfl) (by simp) ?_
      refine H.one rfl (by rfl) (fun K hK => ?_) AllReadyH.nil
      go_simp
      go_at_call 58
      refine (negative_any _ _ _).mono ?_
      rintro e w' ⟨rfl, hb⟩
      refine hK.out _ _ ?_ (fun hHeld2 => ?_)
      · exact ⟨Blk.keep hb hHeld.1, Blk.keep hb hHeld.2.1, Blk.keep hb hHeld.2.2.1, hHeld.2.2.2.trans (hb.mono hHeld.2.2.2.size)⟩
      clear hHeld hK K; have hHeld := hHeld2; clear hHeld2
      try simp only [Act.put, List.setIfInBounds_toArray, List.set_cons_zero, List.set_cons_succ]
      refine H.take 4 (v := ?_) rfl (by kernel_rfl) (fun _ _ _ h => h) (by rfl) ?_ (by assumption) ?_
      rotate_left
      · (intro wz hSw; (try dsimp only at hSw); go_simp <;> with_reducible rfl)
      try simp only [Act.put, List.setIfInBounds_toArray, List.set_cons_zero, List.set_cons_succ]
      refine H.take 5 (v := ?_) rfl (by kernel_rfl) (fun _ _ _ h => h) (by rfl) ?_ (by assumption) ?_
      rotate_left
      · (intro wz hSw; (try dsimp only at hSw); go_simp <;> with_reducible rfl)
      try simp only [Act.put, List.setIfInBounds_toArray, List.set_cons_zero, List.set_cons_succ]
      refine H.take 6 (v := ?_) rfl (by kernel_rfl) (fun _ _ _ h => h) (by rfl) ?_ (by assumption) ?_
      rotate_left
      · (intro wz hSw; (try dsimp only at hSw); go_simp <;> with_reducible rfl)
      try simp only [Act.put, List.setIfInBounds_toArray, List.set_cons_zero, List.set_cons_succ]
      refine H.take 7 (v := ?_) rfl (by kernel_rfl) (fun _ _ _ h => h) (by rfl) ?_ (by assumption) ?_
      rotate_left
      · (intro wz hSw; (try dsimp only at hSw); go_simp <;> with_reducible rfl)
      try simp only [Act.put, List.setIfInBounds_toArray, List.set_cons_zero, List.set_cons_succ]
      refine H.take 8 (v := ?_) rfl (by kernel_rfl) (fun _ _ _ h => h) (by rfl) ?_ (by assumption) ?_
      rotate_left
      · (intro wz hSw; (try dsimp only at hSw); go_simp <;> with_reducible rfl)
      try simp only [Act.put, List.setIfInBounds_toArray, List.set_cons_zero, List.set_cons_succ]
      refine H.ready [9] (by kernel_rfl) (by simp) ?_
      refine H.one rfl (by rfl) (fun K hK => ?_) AllReadyH.nil
      go_simp
      go_at_call 58
      refine (negative_any _ _ _).mono ?_
      rintro e w' ⟨rfl, hb⟩
      refine hK.out _ _ ?_ (fun hHeld2 => ?_)
      · exact ⟨Blk.keep hb hHeld.1, Blk.keep hb hHeld.2.1, Blk.keep hb hHeld.2.2.1, hHeld.2.2.2.trans (hb.mono hHeld.2.2.2.size)⟩
      clear hHeld hK K; have hHeld := hHeld2; clear hHeld2
      try simp only [Act.put, List.setIfInBounds_toArray, List.set_cons_zero, List.set_cons_succ]
      refine H.take 10 (v := ?_) rfl (by kernel_rfl) (fun _ _ _ h => h) (by rfl) ?_ (by assumption) ?_
      rotate_left
      · (intro wz hSw; (try dsimp only at hSw); go_simp <;> with_reducible rfl)
      try simp only [Act.put, List.setIfInBounds_toArray, List.set_cons_zero, List.set_cons_succ]
      refine H.take 11 (v := ?_) rfl (by kernel_rfl) (fun _ _ _ h => h) (by rfl) ?_ (by assumption) ?_
      rotate_left
      · (intro wz hSw; (try dsimp only at hSw); go_simp <;> with_reducible rfl)
      try simp only [Act.put, List.setIfInBounds_toArray, List.set_cons_zero, List.set_cons_succ]
      refine H.done (by kernel_rfl) ?_ _
      obtain ⟨g1, g2, g3, g4⟩ := hHeld
      have e1 := of_decide_eq_true hd1; have e2 := of_decide_eq_true hd2
      go_wp2_with (first | (go_at_call 58; refine (negative_any _ _ _).mono ?_; rintro e w' ⟨rfl, hb⟩; replace g3 := Blk.keep hb g3; replace g4 := g4.trans (hb.mono g4.size)) | (go_at_call 59; refine (bound_low _).mono ?_; rintro e w' ⟨rfl, hb⟩; replace g3 := Blk.keep hb g3; replace g4 := g4.trans (hb.mono g4.size)) | (go_at_call 59; refine (bound_high _).mono ?_; rintro e w' ⟨rfl, hb⟩; replace g3 := Blk.keep hb g3; replace g4 := g4.trans (hb.mono g4.size)))
      have e3 := of_decide_eq_true hd3
      have hfin := (g3.put (i := 0) (.int .i64 s)).put (i := 1) (.int .u64 ((l1 + l2) % 18446744073709551616))
      have hres := add_fits a0 a1 b0 b1 c0 c1 d0 d1 Hs.out (by omega)
      exact bodyPost_ret (v := .agg #[.int .i64 s, .int .u64 ((l1 + l2) % 18446744073709551616)]) (by simp [results, Try.results18, go_sem, (show Blk _ _ #[.int .i64 s, .int .u64 ((l1 + l2) % 18446744073709551616)] _ from hfin).two]) rfl ⟨ret_w hres.1 hres.2, (g4.setCell (by simp; omega) _).setCell (by simp; omega) _⟩


theorem run_sub64 (x y c : Int) (hx : 0 ≤ x) (hy : 0 ≤ y) (hx1 : x ≤ 18446744073709551615) (hy1 : y ≤ 18446744073709551615) (hc : c = if x < y then 1 else 0) (w : World) :
    (callFunc 61 #[.int .u64 x, .int .u64 y, .int .u64 0]).run Try.prog w =
      .ok (.value (.tuple #[.int .u64 ((x + 18446744073709551616 - y) % 18446744073709551616), .int .u64 c])) w := by
  obtain ⟨a, rfl⟩ := Int.eq_ofNat_of_zero_le hx
  obtain ⟨b, rfl⟩ := Int.eq_ofNat_of_zero_le hy
  rw [run_callFunc_extern Try.func61 (by kernel_rfl) (by kernel_rfl) (by kernel_rfl) (e := Go.Proofs.sub64Entry) (by kernel_rfl), show Value.int IntKind.u64 0 = Value.int IntKind.u64 ((0 : Nat) : Int) from rfl, Go.Proofs.run_sub64 a b 0 (by omega)]
  simp only [Result.andThen]
  have e1 : (((a + 18446744073709551616 - b - 0) % 18446744073709551616 : Nat) : Int) = ((a : Int) + 18446744073709551616 - b) % 18446744073709551616 := by omega
  have e2 : ((if a < b + 0 then 1 else 0 : Nat) : Int) = c := by
    rw [hc]; by_cases h : a < b
    · rw [if_pos (by omega), if_pos (by omega)]; rfl
    · rw [if_neg (by omega), if_neg (by omega)]; rfl
  rw [e1, e2]

set_option maxHeartbeats 4000000 in
theorem sub_any (h1 l1 h2 l2 : Int) (a0 : 0 ≤ l1) (a1 : l1 ≤ 18446744073709551615) (b0 : 0 ≤ l2) (b1 : l2 ≤ 18446744073709551615)
    (c0 : -9223372036854775808 ≤ h1) (c1 : h1 ≤ 9223372036854775807) (d0 : -9223372036854775808 ≤ h2) (d1 : h2 ≤ 9223372036854775807) (w : World) :
    Calls Try.prog 20 #[.agg #[.int .i64 h1, .int .u64 l1], .agg #[.int .i64 h2, .int .u64 l2]] w fun e w' =>
      e = .returned (.agg #[.int .i64 (hi (clamp (h1 * 18446744073709551616 + l1 - (h2 * 18446744073709551616 + l2)))), .int .u64 (lo (clamp (h1 * 18446744073709551616 + l1 - (h2 * 18446744073709551616 + l2))))]) ∧ Below w.heap.size w w' := by
  obtain ⟨bw, hbw0⟩ : ∃ bw : Int, bw = if l1 < l2 then 1 else 0 := ⟨_, rfl⟩; have bw0 : 0 ≤ bw := (by split at hbw0 <;> omega); have bw1 : bw ≤ 1 := (by split at hbw0 <;> omega); have hbw := Lib.hid hbw0
  have hadd := fun w => run_sub64 l1 l2 bw a0 b0 a1 b1 hbw0 w
  have q1 := fun (w' : World) (h : Blk w' w.heap.size #[.int .i64 h1, .int .u64 l1] 24) => h.two
  have q2 := fun (w' : World) (h : Blk w' (w.heap.size + 1) #[.int .i64 h2, .int .u64 l2] 24) => h.two
  have q3 := fun (w' : World) (h : Blk w' (w.heap.size + 1 + 1) #[.int .i64 0, .int .u64 0] 24) => h.two
  have q4 := fun (w' : World) (h : Blk w' (w.heap.size + 1 + 1) #[.int .i64 0, .int .u64 0] 24) => h.free0
  clear hbw0
  rcases hd1 : decide (h1 < 0) with _ | _ <;> rcases hd2 : decide (h2 < 0) with _ | _
  · skip
    go_enter Try.func20, Try.ntmps20
    go_wp2
    generalize hs : wrap64 (wrap64 (h1 - h2) - bw) = s
    have Hs := Lib.hid hs; clear hs
    refine wp_region_held_drew (S := (fun w' => Blk w' w.heap.size #[.int .i64 h1, .int .u64 l1] 24 ∧ Blk w' (w.heap.size + 1) #[.int .i64 h2, .int .u64 l2] 24 ∧ Blk w' (w.heap.size + 1 + 1) #[.int .i64 0, .int .u64 0] 24 ∧ Below w.heap.size w w')) (by kernel_rfl) ?_ (fun hHeld => ?_)
    · exact ⟨(((Blk.new rfl).old _).old _).drew, ((Blk.new (by simp)).old _).drew, (Blk.new (by simp)).drew, ((((Below.refl _ _).alloc (Nat.le_refl _) _).alloc (by simp) _).alloc (by simp; omega) _).drew⟩
    refine H.take 0 (v := ?_) rfl (by kernel_rfl) (fun _ _ _ h => h) (by rfl) ?_ (by assumption) ?_
    rotate_left
    · (intro wz hSw; (try dsimp only at hSw); go_simp <;> with_reducible rfl)
    try simp only [Act.put, List.setIfInBounds_toArray, List.set_cons_zero, List.set_cons_succ]
    refine H.take 2 (v := ?_) rfl (by kernel_rfl) (fun _ _ _ h => h) (by rfl) ?_ (by assumption) ?_
    rotate_left
    · (intro wz hSw; (try dsimp only at hSw); go_simp <;> with_reducible rfl)
    try simp only [Act.put, List.setIfInBounds_toArray, List.set_cons_zero, List.set_cons_succ]
    refine H.ready [1] (by kernel_rfl) (by simp) ?_
    refine H.one rfl (by rfl) (fun K hK => ?_) AllReadyH.nil
    go_simp
    go_at_call 58
    refine (negative_any _ _ _).mono ?_
    rintro e w' ⟨rfl, hb⟩
    refine hK.out _ _ ?_ (fun hHeld2 => ?_)
    · exact ⟨Blk.keep hb hHeld.1, Blk.keep hb hHeld.2.1, Blk.keep hb hHeld.2.2.1, hHeld.2.2.2.trans (hb.mono hHeld.2.2.2.size)⟩
    clear hHeld hK K; have hHeld := hHeld2; clear hHeld2
    try simp only [Act.put, List.setIfInBounds_toArray, List.set_cons_zero, List.set_cons_succ]
    refine H.ready [3] (by kernel_rfl) (by simp) ?_
    refine H.one rfl (by rfl) (fun K hK => ?_) AllReadyH.nil
    go_simp
    go_at_call 58
    refine (negative_any _ _ _).mono ?_
    rintro e w' ⟨rfl, hb⟩
    refine hK.out _ _ ?_ (fun hHeld2 => ?_)
    · exact ⟨Blk.keep hb hHeld.1, Blk.keep hb hHeld.2.1, Blk.keep hb hHeld.2.2.1, hHeld.2.2.2.trans (hb.mono hHeld.2.2.2.size)⟩
    clear hHeld hK K; have hHeld := hHeld2; clear hHeld2
    try simp only [Act.put, List.setIfInBounds_toArray, List.set_cons_zero, List.set_cons_succ]
    refine H.take 4 (v := ?_) rfl (by kernel_rfl) (fun _ _ _ h => h) (by rfl) ?_ (by assumption) ?_
    rotate_left
    · (intro wz hSw; (try dsimp only at hSw); go_simp <;> with_reducible rfl)
    try simp only [Act.put, List.setIfInBounds_toArray, List.set_cons_zero, List.set_cons_succ]
    refine H.take 5 (v := ?_) rfl (by kernel_rfl) (fun _ _ _ h => h) (by rfl) ?_ (by assumption) ?_
    rotate_left
    · (intro wz hSw; (try dsimp only at hSw); go_simp <;> with_reducible rfl)
    try simp only [Act.put, List.setIfInBounds_toArray, List.set_cons_zero, List.set_cons_succ]
    refine H.skip 6 rfl (by kernel_rfl) (fun _ _ _ h => h) (by rfl) (by assumption) ?_
    try simp only [Act.put, List.setIfInBounds_toArray, List.set_cons_zero, List.set_cons_succ]
    refine H.skip 7 rfl (by kernel_rfl) (fun _ _ _ h => h) (by rfl) (by assumption) ?_
    try simp only [Act.put, List.setIfInBounds_toArray, List.set_cons_zero, List.set_cons_succ]
    refine H.skip 8 rfl (by kernel_rfl) (fun _ _ _ h => h) (by rfl) (by assumption) ?_
    try simp only [Act.put, List.setIfInBounds_toArray, List.set_cons_zero, List.set_cons_succ]
    refine H.skip 9 rfl (by kernel_rfl) (fun _ _ _ h => h) (by rfl) (by assumption) ?_
    try simp only [Act.put, List.setIfInBounds_toArray, List.set_cons_zero, List.set_cons_succ]
    refine H.skip 10 rfl (by kernel_rfl) (fun _ _ _ h => h) (by rfl) (by assumption) ?_
    try simp only [Act.put, List.setIfInBounds_toArray, List.set_cons_zero, List.set_cons_succ]
    refine H.take 11 (v := ?_) rfl (by kernel_rfl) (fun _ _ _ h => h) (by rfl) ?_ (by assumption) ?_
    rotate_left
    · (intro wz hSw; (try dsimp only at hSw); go_simp <;> with_reducible rfl)
    try simp only [Act.put, List.setIfInBounds_toArray, List.set_cons_zero, List.set_cons_succ]
    refine H.done (by kernel_rfl) ?_ _
    obtain ⟨g1, g2, g3, g4⟩ := hHeld
    have e1 := of_decide_eq_false hd1; have e2 := of_decide_eq_false hd2
    go_wp2_with (first | (go_at_call 58; refine (negative_any _ _ _).mono ?_; rintro e w' ⟨rfl, hb⟩; replace g3 := Blk.keep hb g3; replace g4 := g4.trans (hb.mono g4.size)) | (go_at_call 59; refine (bound_low _).mono ?_; rintro e w' ⟨rfl, hb⟩; replace g3 := Blk.keep hb g3; replace g4 := g4.trans (hb.mono g4.size)) | (go_at_call 59; refine (bound_high _).mono ?_; rintro e w' ⟨rfl, hb⟩; replace g3 := Blk.keep hb g3; replace g4 := g4.trans (hb.mono g4.size)))
    have hfin := (g3.put (i := 0) (.int .i64 s)).put (i := 1) (.int .u64 ((l1 + 18446744073709551616 - l2) % 18446744073709551616))
    have hres := sub_fits a0 a1 b0 b1 c0 c1 d0 d1 Hs.out hbw.out (by omega)
    exact bodyPost_ret (v := .agg #[.int .i64 s, .int .u64 ((l1 + 18446744073709551616 - l2) % 18446744073709551616)]) (by simp [results, Try.results20, go_sem, (show Blk _ _ #[.int .i64 s, .int .u64 ((l1 + 18446744073709551616 - l2) % 18446744073709551616)] _ from hfin).two]) rfl ⟨ret_w hres.1 hres.2, (g4.setCell (by simp; omega) _).setCell (by simp; omega) _⟩
  · skip
    go_enter Try.func20, Try.ntmps20
    go_wp2
    generalize hs : wrap64 (wrap64 (h1 - h2) - bw) = s
    have Hs := Lib.hid hs; clear hs
    rcases hd3 : decide (s < 0) with _ | _
    · skip
      refine wp_region_held_drew (S := (fun w' => Blk w' w.heap.size #[.int .i64 h1, .int .u64 l1] 24 ∧ Blk w' (w.heap.size + 1) #[.int .i64 h2, .int .u64 l2] 24 ∧ Blk w' (w.heap.size + 1 + 1) #[.int .i64 0, .int .u64 0] 24 ∧ Below w.heap.size w w')) (by kernel_rfl) ?_ (fun hHeld => ?_)
      · exact ⟨(((Blk.new rfl).old _).old _).drew, ((Blk.new (by simp)).old _).drew, (Blk.new (by simp)).drew, ((((Below.refl _ _).alloc (Nat.le_refl _) _).alloc (by simp) _).alloc (by simp; omega) _).drew⟩
      refine H.take 0 (v := ?_) rfl (by kernel_rfl) (fun _ _ _ h => h) (by rfl) ?_ (by assumption) ?_
      rotate_left
      · (intro wz hSw; (try dsimp only at hSw); go_simp <;> with_reducible rfl)
      try simp only [Act.put, List.setIfInBounds_toArray, List.set_cons_zero, List.set_cons_succ]
      refine H.take 2 (v := ?_) rfl (by kernel_rfl) (fun _ _ _ h => h) (by rfl) ?_ (by assumption) ?_
      rotate_left
      · (intro wz hSw; (try dsimp only at hSw); go_simp <;> with_reducible rfl)
      try simp only [Act.put, List.setIfInBounds_toArray, List.set_cons_zero, List.set_cons_succ]
      refine H.ready [1] (by kernel_rfl) (by simp) ?_
      refine H.one rfl (by rfl) (fun K hK => ?_) AllReadyH.nil
      go_simp
      go_at_call 58
      refine (negative_any _ _ _).mono ?_
      rintro e w' ⟨rfl, hb⟩
      refine hK.out _ _ ?_ (fun hHeld2 => ?_)
      · exact ⟨Blk.keep hb hHeld.1, Blk.keep hb hHeld.2.1, Blk.keep hb hHeld.2.2.1, hHeld.2.2.2.trans (hb.mono hHeld.2.2.2.size)⟩
      clear hHeld hK K; have hHeld := hHeld2; clear hHeld2
      try simp only [Act.put, List.setIfInBounds_toArray, List.set_cons_zero, List.set_cons_succ]
      refine H.ready [3] (by kernel_rfl) (by simp) ?_
      refine H.one rfl (by rfl) (fun K hK => ?_) AllReadyH.nil
      go_simp
      go_at_call 58
      refine (negative_any _ _ _).mono ?_
      rintro e w' ⟨rfl, hb⟩
      refine hK.out _ _ ?_ (fun hHeld2 => ?_)
      · exact ⟨Blk.keep hb hHeld.1, Blk.keep hb hHeld.2.1, Blk.keep hb hHeld.2.2.1, hHeld.2.2.2.trans (hb.mono hHeld.2.2.2.size)⟩
      clear hHeld hK K; have hHeld := hHeld2; clear hHeld2
      try simp only [Act.put, List.setIfInBounds_toArray, List.set_cons_zero, List.set_cons_succ]
      refine H.take 4 (v := ?_) rfl (by kernel_rfl) (fun _ _ _ h => h) (by rfl) ?_ (by assumption) ?_
      rotate_left
      · (intro wz hSw; (try dsimp only at hSw); go_simp <;> with_reducible rfl)
      try simp only [Act.put, List.setIfInBounds_toArray, List.set_cons_zero, List.set_cons_succ]
      refine H.take 5 (v := ?_) rfl (by kernel_rfl) (fun _ _ _ h => h) (by rfl) ?_ (by assumption) ?_
      rotate_left
      · (intro wz hSw; (try dsimp only at hSw); go_simp <;> with_reducible rfl)
      try simp only [Act.put, List.setIfInBounds_toArray, List.set_cons_zero, List.set_cons_succ]
      refine H.take 6 (v := ?_) rfl (by kernel_rfl) (fun _ _ _ h => h) (by rfl) ?_ (by assumption) ?_
      rotate_left
      · (intro wz hSw; (try dsimp only at hSw); go_simp <;> with_reducible rfl)
      try simp only [Act.put, List.setIfInBounds_toArray, List.set_cons_zero, List.set_cons_succ]
      refine H.take 7 (v := ?_) rfl (by kernel_rfl) (fun _ _ _ h => h) (by rfl) ?_ (by assumption) ?_
      rotate_left
      · (intro wz hSw; (try dsimp only at hSw); go_simp <;> with_reducible rfl)
      try simp only [Act.put, List.setIfInBounds_toArray, List.set_cons_zero, List.set_cons_succ]
      refine H.take 8 (v := ?_) rfl (by kernel_rfl) (fun _ _ _ h => h) (by rfl) ?_ (by assumption) ?_
      rotate_left
      · (intro wz hSw; (try dsimp only at hSw); go_simp <;> with_reducible rfl)
      try simp only [Act.put, List.setIfInBounds_toArray, List.set_cons_zero, List.set_cons_succ]
      refine H.ready [9] (by kernel_rfl) (by simp) ?_
      refine H.one rfl (by rfl) (fun K hK => ?_) AllReadyH.nil
      go_simp
      go_at_call 58
      refine (negative_any _ _ _).mono ?_
      rintro e w' ⟨rfl, hb⟩
      refine hK.out _ _ ?_ (fun hHeld2 => ?_)
      · exact ⟨Blk.keep hb hHeld.1, Blk.keep hb hHeld.2.1, Blk.keep hb hHeld.2.2.1, hHeld.2.2.2.trans (hb.mono hHeld.2.2.2.size)⟩
      clear hHeld hK K; have hHeld := hHeld2; clear hHeld2
      try simp only [Act.put, List.setIfInBounds_toArray, List.set_cons_zero, List.set_cons_succ]
      refine H.take 10 (v := ?_) rfl (by kernel_rfl) (fun _ _ _ h => h) (by rfl) ?_ (by assumption) ?_
      rotate_left
      · (intro wz hSw; (try dsimp only at hSw); go_simp <;> with_reducible rfl)
      try simp only [Act.put, List.setIfInBounds_toArray, List.set_cons_zero, List.set_cons_succ]
      refine H.take 11 (v := ?_) rfl (by kernel_rfl) (fun _ _ _ h => h) (by rfl) ?_ (by assumption) ?_
      rotate_left
      · (intro wz hSw; (try dsimp only at hSw); go_simp <;> with_reducible rfl)
      try simp only [Act.put, List.setIfInBounds_toArray, List.set_cons_zero, List.set_cons_succ]
      refine H.done (by kernel_rfl) ?_ _
      obtain ⟨g1, g2, g3, g4⟩ := hHeld
      have e1 := of_decide_eq_false hd1; have e2 := of_decide_eq_true hd2
      go_wp2_with (first | (go_at_call 58; refine (negative_any _ _ _).mono ?_; rintro e w' ⟨rfl, hb⟩; replace g3 := Blk.keep hb g3; replace g4 := g4.trans (hb.mono g4.size)) | (go_at_call 59; refine (bound_low _).mono ?_; rintro e w' ⟨rfl, hb⟩; replace g3 := Blk.keep hb g3; replace g4 := g4.trans (hb.mono g4.size)) | (go_at_call 59; refine (bound_high _).mono ?_; rintro e w' ⟨rfl, hb⟩; replace g3 := Blk.keep hb g3; replace g4 := g4.trans (hb.mono g4.size)))
      have e3 := of_decide_eq_false hd3
      have hfin := (g3.put (i := 0) (.int .i64 s)).put (i := 1) (.int .u64 ((l1 + 18446744073709551616 - l2) % 18446744073709551616))
      have hres := sub_fits a0 a1 b0 b1 c0 c1 d0 d1 Hs.out hbw.out (by omega)
      exact bodyPost_ret (v := .agg #[.int .i64 s, .int .u64 ((l1 + 18446744073709551616 - l2) % 18446744073709551616)]) (by simp [results, Try.results20, go_sem, (show Blk _ _ #[.int .i64 s, .int .u64 ((l1 + 18446744073709551616 - l2) % 18446744073709551616)] _ from hfin).two]) rfl ⟨ret_w hres.1 hres.2, (g4.setCell (by simp; omega) _).setCell (by simp; omega) _⟩
    · skip
      refine wp_region_held_drew (S := (fun w' => Blk w' w.heap.size #[.int .i64 h1, .int .u64 l1] 24 ∧ Blk w' (w.heap.size + 1) #[.int .i64 h2, .int .u64 l2] 24 ∧ Blk w' (w.heap.size + 1 + 1) #[.int .i64 0, .int .u64 0] 24 ∧ Below w.heap.size w w')) (by kernel_rfl) ?_ (fun hHeld => ?_)
      · exact ⟨(((Blk.new rfl).old _).old _).drew, ((Blk.new (by simp)).old _).drew, (Blk.new (by simp)).drew, ((((Below.refl _ _).alloc (Nat.le_refl _) _).alloc (by simp) _).alloc (by simp; omega) _).drew⟩
      refine H.take 0 (v := ?_) rfl (by kernel_rfl) (fun _ _ _ h => h) (by rfl) ?_ (by assumption) ?_
      rotate_left
      · (intro wz hSw; (try dsimp only at hSw); go_simp <;> with_reducible rfl)
      try simp only [Act.put, List.setIfInBounds_toArray, List.set_cons_zero, List.set_cons_succ]
      refine H.take 2 (v := ?_) rfl (by kernel_rfl) (fun _ _ _ h => h) (by rfl) ?_ (by assumption) ?_
      rotate_left
      · (intro wz hSw; (try dsimp only at hSw); go_simp <;> with_reducible rfl)
      try simp only [Act.put, List.setIfInBounds_toArray, List.set_cons_zero, List.set_cons_succ]
      refine H.ready [1] (by kernel_rfl) (by simp) ?_
      refine H.one rfl (by rfl) (fun K hK => ?_) AllReadyH.nil
      go_simp
      go_at_call 58
      refine (negative_any _ _ _).mono ?_
      rintro e w' ⟨rfl, hb⟩
      refine hK.out _ _ ?_ (fun hHeld2 => ?_)
      · exact ⟨Blk.keep hb hHeld.1, Blk.keep hb hHeld.2.1, Blk.keep hb hHeld.2.2.1, hHeld.2.2.2.trans (hb.mono hHeld.2.2.2.size)⟩
      clear hHeld hK K; have hHeld := hHeld2; clear hHeld2
      try simp only [Act.put, List.setIfInBounds_toArray, List.set_cons_zero, List.set_cons_succ]
      refine H.ready [3] (by kernel_rfl) (by simp) ?_
      refine H.one rfl (by rfl) (fun K hK => ?_) AllReadyH.nil
      go_simp
      go_at_call 58
      refine (negative_any _ _ _).mono ?_
      rintro e w' ⟨rfl, hb⟩
      refine hK.out _ _ ?_ (fun hHeld2 => ?_)
      · exact ⟨Blk.keep hb hHeld.1, Blk.keep hb hHeld.2.1, Blk.keep hb hHeld.2.2.1, hHeld.2.2.2.trans (hb.mono hHeld.2.2.2.size)⟩
      clear hHeld hK K; have hHeld := hHeld2; clear hHeld2
      try simp only [Act.put, List.setIfInBounds_toArray, List.set_cons_zero, List.set_cons_succ]
      refine H.take 4 (v := ?_) rfl (by kernel_rfl) (fun _ _ _ h => h) (by rfl) ?_ (by assumption) ?_
      rotate_left
      · (intro wz hSw; (try dsimp only at hSw); go_simp <;> with_reducible rfl)
      try simp only [Act.put, List.setIfInBounds_toArray, List.set_cons_zero, List.set_cons_succ]
      refine H.take 5 (v := ?_) rfl (by kernel_rfl) (fun _ _ _ h => h) (by rfl) ?_ (by assumption) ?_
      rotate_left
      · (intro wz hSw; (try dsimp only at hSw); go_simp <;> with_reducible rfl)
      try simp only [Act.put, List.setIfInBounds_toArray, List.set_cons_zero, List.set_cons_succ]
      refine H.take 6 (v := ?_) rfl (by kernel_rfl) (fun _ _ _ h => h) (by rfl) ?_ (by assumption) ?_
      rotate_left
      · (intro wz hSw; (try dsimp only at hSw); go_simp <;> with_reducible rfl)
      try simp only [Act.put, List.setIfInBounds_toArray, List.set_cons_zero, List.set_cons_succ]
      refine H.take 7 (v := ?_) rfl (by kernel_rfl) (fun _ _ _ h => h) (by rfl) ?_ (by assumption) ?_
      rotate_left
      · (intro wz hSw; (try dsimp only at hSw); go_simp <;> with_reducible rfl)
      try simp only [Act.put, List.setIfInBounds_toArray, List.set_cons_zero, List.set_cons_succ]
      refine H.take 8 (v := ?_) rfl (by kernel_rfl) (fun _ _ _ h => h) (by rfl) ?_ (by assumption) ?_
      rotate_left
      · (intro wz hSw; (try dsimp only at hSw); go_simp <;> with_reducible rfl)
      try simp only [Act.put, List.setIfInBounds_toArray, List.set_cons_zero, List.set_cons_succ]
      refine H.ready [9] (by kernel_rfl) (by simp) ?_
      refine H.one rfl (by rfl) (fun K hK => ?_) AllReadyH.nil
      go_simp
      go_at_call 58
      refine (negative_any _ _ _).mono ?_
      rintro e w' ⟨rfl, hb⟩
      refine hK.out _ _ ?_ (fun hHeld2 => ?_)
      · exact ⟨Blk.keep hb hHeld.1, Blk.keep hb hHeld.2.1, Blk.keep hb hHeld.2.2.1, hHeld.2.2.2.trans (hb.mono hHeld.2.2.2.size)⟩
      clear hHeld hK K; have hHeld := hHeld2; clear hHeld2
      try simp only [Act.put, List.setIfInBounds_toArray, List.set_cons_zero, List.set_cons_succ]
      refine H.take 10 (v := ?_) rfl (by kernel_rfl) (fun _ _ _ h => h) (by rfl) ?_ (by assumption) ?_
      rotate_left
      · (intro wz hSw; (try dsimp only at hSw); go_simp <;> with_reducible rfl)
      try simp only [Act.put, List.setIfInBounds_toArray, List.set_cons_zero, List.set_cons_succ]
      refine H.take 11 (v := ?_) rfl (by kernel_rfl) (fun _ _ _ h => h) (by rfl) ?_ (by assumption) ?_
      rotate_left
      · (intro wz hSw; (try dsimp only at hSw); go_simp <;> with_reducible rfl)
      try simp only [Act.put, List.setIfInBounds_toArray, List.set_cons_zero, List.set_cons_succ]
      refine H.done (by kernel_rfl) ?_ _
      obtain ⟨g1, g2, g3, g4⟩ := hHeld
      have e1 := of_decide_eq_false hd1; have e2 := of_decide_eq_true hd2
      go_wp2_with (first | (go_at_call 58; refine (negative_any _ _ _).mono ?_; rintro e w' ⟨rfl, hb⟩; replace g3 := Blk.keep hb g3; replace g4 := g4.trans (hb.mono g4.size)) | (go_at_call 59; refine (bound_low _).mono ?_; rintro e w' ⟨rfl, hb⟩; replace g3 := Blk.keep hb g3; replace g4 := g4.trans (hb.mono g4.size)) | (go_at_call 59; refine (bound_high _).mono ?_; rintro e w' ⟨rfl, hb⟩; replace g3 := Blk.keep hb g3; replace g4 := g4.trans (hb.mono g4.size)))
      have e3 := of_decide_eq_true hd3
      have hfin := (g3.put (i := 0) (.int .i64 9223372036854775807)).put (i := 1) (.int .u64 18446744073709551615)
      have hres := sub_high a0 a1 b0 b1 (by omega) (by omega) Hs.out hbw.out (by omega) (by omega) (by omega)
      exact bodyPost_ret (v := .agg #[.int .i64 9223372036854775807, .int .u64 18446744073709551615]) (by simp [results, Try.results20, go_sem, (show Blk _ _ #[.int .i64 9223372036854775807, .int .u64 18446744073709551615] _ from hfin).two]) rfl ⟨ret_w hres.1 hres.2, (g4.setCell (by simp; omega) _).setCell (by simp; omega) _⟩
  · skip
    go_enter Try.func20, Try.ntmps20
    go_wp2
    generalize hs : wrap64 (wrap64 (h1 - h2) - bw) = s
    have Hs := Lib.hid hs; clear hs
    rcases hd3 : decide (s < 0) with _ | _
    · skip
      refine wp_region_held_drew (S := (fun w' => Blk w' w.heap.size #[.int .i64 h1, .int .u64 l1] 24 ∧ Blk w' (w.heap.size + 1) #[.int .i64 h2, .int .u64 l2] 24 ∧ Blk w' (w.heap.size + 1 + 1) #[.int .i64 0, .int .u64 0] 24 ∧ Below w.heap.size w w')) (by kernel_rfl) ?_ (fun hHeld => ?_)
      · exact ⟨(((Blk.new rfl).old _).old _).drew, ((Blk.new (by simp)).old _).drew, (Blk.new (by simp)).drew, ((((Below.refl _ _).alloc (Nat.le_refl _) _).alloc (by simp) _).alloc (by simp; omega) _).drew⟩
      refine H.take 0 (v := ?_) rfl (by kernel_rfl) (fun _ _ _ h => h) (by rfl) ?_ (by assumption) ?_
      rotate_left
      · (intro wz hSw; (try dsimp only at hSw); go_simp <;> with_reducible rfl)
      try simp only [Act.put, List.setIfInBounds_toArray, List.set_cons_zero, List.set_cons_succ]
      refine H.take 2 (v := ?_) rfl (by kernel_rfl) (fun _ _ _ h => h) (by rfl) ?_ (by assumption) ?_
      rotate_left
      · (intro wz hSw; (try dsimp only at hSw); go_simp <;> with_reducible rfl)
      try simp only [Act.put, List.setIfInBounds_toArray, List.set_cons_zero, List.set_cons_succ]
      refine H.ready [1] (by kernel_rfl) (by simp) ?_
      refine H.one rfl (by rfl) (fun K hK => ?_) AllReadyH.nil
      go_simp
      go_at_call 58
      refine (negative_any _ _ _).mono ?_
      rintro e w' ⟨rfl, hb⟩
      refine hK.out _ _ ?_ (fun hHeld2 => ?_)
      · exact ⟨Blk.keep hb hHeld.1, Blk.keep hb hHeld.2.1, Blk.keep hb hHeld.2.2.1, hHeld.2.2.2.trans (hb.mono hHeld.2.2.2.size)⟩
      clear hHeld hK K; have hHeld := hHeld2; clear hHeld2
      try simp only [Act.put, List.setIfInBounds_toArray, List.set_cons_zero, List.set_cons_succ]
      refine H.ready [3] (by kernel_rfl) (by simp) ?_
      refine H.one rfl (by rfl) (fun K hK => ?_) AllReadyH.nil
      go_simp
      go_at_call 58
      refine (negative_any _ _ _).mono ?_
      rintro e w' ⟨rfl, hb⟩
      refine hK.out _ _ ?_ (fun hHeld2 => ?_)
      · exact ⟨Blk.keep hb hHeld.1, Blk.keep hb hHeld.2.1, Blk.keep hb hHeld.2.2.1, hHeld.2.2.2.trans (hb.mono hHeld.2.2.2.size)⟩
      clear hHeld hK K; have hHeld := hHeld2; clear hHeld2
      try simp only [Act.put, List.setIfInBounds_toArray, List.set_cons_zero, List.set_cons_succ]
      refine H.take 4 (v := ?_) rfl (by kernel_rfl) (fun _ _ _ h => h) (by rfl) ?_ (by assumption) ?_
      rotate_left
      · (intro wz hSw; (try dsimp only at hSw); go_simp <;> with_reducible rfl)
      try simp only [Act.put, List.setIfInBounds_toArray, List.set_cons_zero, List.set_cons_succ]
      refine H.take 5 (v := ?_) rfl (by kernel_rfl) (fun _ _ _ h => h) (by rfl) ?_ (by assumption) ?_
      rotate_left
      · (intro wz hSw; (try dsimp only at hSw); go_simp <;> with_reducible rfl)
      try simp only [Act.put, List.setIfInBounds_toArray, List.set_cons_zero, List.set_cons_succ]
      refine H.take 6 (v := ?_) rfl (by kernel_rfl) (fun _ _ _ h => h) (by rfl) ?_ (by assumption) ?_
      rotate_left
      · (intro wz hSw; (try dsimp only at hSw); go_simp <;> with_reducible rfl)
      try simp only [Act.put, List.setIfInBounds_toArray, List.set_cons_zero, List.set_cons_succ]
      refine H.take 7 (v := ?_) rfl (by kernel_rfl) (fun _ _ _ h => h) (by rfl) ?_ (by assumption) ?_
      rotate_left
      · (intro wz hSw; (try dsimp only at hSw); go_simp <;> with_reducible rfl)
      try simp only [Act.put, List.setIfInBounds_toArray, List.set_cons_zero, List.set_cons_succ]
      refine H.take 8 (v := ?_) rfl (by kernel_rfl) (fun _ _ _ h => h) (by rfl) ?_ (by assumption) ?_
      rotate_left
      · (intro wz hSw; (try dsimp only at hSw); go_simp <;> with_reducible rfl)
      try simp only [Act.put, List.setIfInBounds_toArray, List.set_cons_zero, List.set_cons_succ]
      refine H.ready [9] (by kernel_rfl) (by simp) ?_
      refine H.one rfl (by rfl) (fun K hK => ?_) AllReadyH.nil
      go_simp
      go_at_call 58
      refine (negative_any _ _ _).mono ?_
      rintro e w' ⟨rfl, hb⟩
      refine hK.out _ _ ?_ (fun hHeld2 => ?_)
      · exact ⟨Blk.keep hb hHeld.1, Blk.keep hb hHeld.2.1, Blk.keep hb hHeld.2.2.1, hHeld.2.2.2.trans (hb.mono hHeld.2.2.2.size)⟩
      clear hHeld hK K; have hHeld := hHeld2; clear hHeld2
      try simp only [Act.put, List.setIfInBounds_toArray, List.set_cons_zero, List.set_cons_succ]
      refine H.take 10 (v := ?_) rfl (by kernel_rfl) (fun _ _ _ h => h) (by rfl) ?_ (by assumption) ?_
      rotate_left
      · (intro wz hSw; (try dsimp only at hSw); go_simp <;> with_reducible rfl)
      try simp only [Act.put, List.setIfInBounds_toArray, List.set_cons_zero, List.set_cons_succ]
      refine H.take 11 (v := ?_) rfl (by kernel_rfl) (fun _ _ _ h => h) (by rfl) ?_ (by assumption) ?_
      rotate_left
      · (intro wz hSw; (try dsimp only at hSw); go_simp <;> with_reducible rfl)
      try simp only [Act.put, List.setIfInBounds_toArray, List.set_cons_zero, List.set_cons_succ]
      refine H.done (by kernel_rfl) ?_ _
      obtain ⟨g1, g2, g3, g4⟩ := hHeld
      have e1 := of_decide_eq_true hd1; have e2 := of_decide_eq_false hd2
      go_wp2_with (first | (go_at_call 58; refine (negative_any _ _ _).mono ?_; rintro e w' ⟨rfl, hb⟩; replace g3 := Blk.keep hb g3; replace g4 := g4.trans (hb.mono g4.size)) | (go_at_call 59; refine (bound_low _).mono ?_; rintro e w' ⟨rfl, hb⟩; replace g3 := Blk.keep hb g3; replace g4 := g4.trans (hb.mono g4.size)) | (go_at_call 59; refine (bound_high _).mono ?_; rintro e w' ⟨rfl, hb⟩; replace g3 := Blk.keep hb g3; replace g4 := g4.trans (hb.mono g4.size)))
      have e3 := of_decide_eq_false hd3
      have hfin := (g3.put (i := 0) (.int .i64 (-9223372036854775808))).put (i := 1) (.int .u64 0)
      have hres := sub_low a0 a1 b0 b1 (by omega) (by omega) Hs.out hbw.out (by omega) (by omega) (by omega)
      exact bodyPost_ret (v := .agg #[.int .i64 (-9223372036854775808), .int .u64 0]) (by simp [results, Try.results20, go_sem, (show Blk _ _ #[.int .i64 (-9223372036854775808), .int .u64 0] _ from hfin).two]) rfl ⟨ret_w hres.1 hres.2, (g4.setCell (by simp; omega) _).setCell (by simp; omega) _⟩
    · skip
      refine wp_region_held_drew (S := (fun w' => Blk w' w.heap.size #[.int .i64 h1, .int .u64 l1] 24 ∧ Blk w' (w.heap.size + 1) #[.int .i64 h2, .int .u64 l2] 24 ∧ Blk w' (w.heap.size + 1 + 1) #[.int .i64 0, .int .u64 0] 24 ∧ Below w.heap.size w w')) (by kernel_rfl) ?_ (fun hHeld => ?_)
      · exact ⟨(((Blk.new rfl).old _).old _).drew, ((Blk.new (by simp)).old _).drew, (Blk.new (by simp)).drew, ((((Below.refl _ _).alloc (Nat.le_refl _) _).alloc (by simp) _).alloc (by simp; omega) _).drew⟩
      refine H.take 0 (v := ?_) rfl (by kernel_rfl) (fun _ _ _ h => h) (by rfl) ?_ (by assumption) ?_
      rotate_left
      · (intro wz hSw; (try dsimp only at hSw); go_simp <;> with_reducible rfl)
      try simp only [Act.put, List.setIfInBounds_toArray, List.set_cons_zero, List.set_cons_succ]
      refine H.take 2 (v := ?_) rfl (by kernel_rfl) (fun _ _ _ h => h) (by rfl) ?_ (by assumption) ?_
      rotate_left
      · (intro wz hSw; (try dsimp only at hSw); go_simp <;> with_reducible rfl)
      try simp only [Act.put, List.setIfInBounds_toArray, List.set_cons_zero, List.set_cons_succ]
      refine H.ready [1] (by kernel_rfl) (by simp) ?_
      refine H.one rfl (by rfl) (fun K hK => ?_) AllReadyH.nil
      go_simp
      go_at_call 58
      refine (negative_any _ _ _).mono ?_
      rintro e w' ⟨rfl, hb⟩
      refine hK.out _ _ ?_ (fun hHeld2 => ?_)
      · exact ⟨Blk.keep hb hHeld.1, Blk.keep hb hHeld.2.1, Blk.keep hb hHeld.2.2.1, hHeld.2.2.2.trans (hb.mono hHeld.2.2.2.size)⟩
      clear hHeld hK K; have hHeld := hHeld2; clear hHeld2
      try simp only [Act.put, List.setIfInBounds_toArray, List.set_cons_zero, List.set_cons_succ]
      refine H.ready [3] (by kernel_rfl) (by simp) ?_
      refine H.one rfl (by rfl) (fun K hK => ?_) AllReadyH.nil
      go_simp
      go_at_call 58
      refine (negative_any _ _ _).mono ?_
      rintro e w' ⟨rfl, hb⟩
      refine hK.out _ _ ?_ (fun hHeld2 => ?_)
      · exact ⟨Blk.keep hb hHeld.1, Blk.keep hb hHeld.2.1, Blk.keep hb hHeld.2.2.1, hHeld.2.2.2.trans (hb.mono hHeld.2.2.2.size)⟩
      clear hHeld hK K; have hHeld := hHeld2; clear hHeld2
      try simp only [Act.put, List.setIfInBounds_toArray, List.set_cons_zero, List.set_cons_succ]
      refine H.take 4 (v := ?_) rfl (by kernel_rfl) (fun _ _ _ h => h) (by rfl) ?_ (by assumption) ?_
      rotate_left
      · (intro wz hSw; (try dsimp only at hSw); go_simp <;> with_reducible rfl)
      try simp only [Act.put, List.setIfInBounds_toArray, List.set_cons_zero, List.set_cons_succ]
      refine H.take 5 (v := ?_) rfl (by kernel_rfl) (fun _ _ _ h => h) (by rfl) ?_ (by assumption) ?_
      rotate_left
      · (intro wz hSw; (try dsimp only at hSw); go_simp <;> with_reducible rfl)
      try simp only [Act.put, List.setIfInBounds_toArray, List.set_cons_zero, List.set_cons_succ]
      refine H.take 6 (v := ?_) rfl (by kernel_rfl) (fun _ _ _ h => h) (by rfl) ?_ (by assumption) ?_
      rotate_left
      · (intro wz hSw; (try dsimp only at hSw); go_simp <;> with_reducible rfl)
      try simp only [Act.put, List.setIfInBounds_toArray, List.set_cons_zero, List.set_cons_succ]
      refine H.take 7 (v := ?_) rfl (by kernel_rfl) (fun _ _ _ h => h) (by rfl) ?_ (by assumption) ?_
      rotate_left
      · (intro wz hSw; (try dsimp only at hSw); go_simp <;> with_reducible rfl)
      try simp only [Act.put, List.setIfInBounds_toArray, List.set_cons_zero, List.set_cons_succ]
      refine H.take 8 (v := ?_) rfl (by kernel_rfl) (fun _ _ _ h => h) (by rfl) ?_ (by assumption) ?_
      rotate_left
      · (intro wz hSw; (try dsimp only at hSw); go_simp <;> with_reducible rfl)
      try simp only [Act.put, List.setIfInBounds_toArray, List.set_cons_zero, List.set_cons_succ]
      refine H.ready [9] (by kernel_rfl) (by simp) ?_
      refine H.one rfl (by rfl) (fun K hK => ?_) AllReadyH.nil
      go_simp
      go_at_call 58
      refine (negative_any _ _ _).mono ?_
      rintro e w' ⟨rfl, hb⟩
      refine hK.out _ _ ?_ (fun hHeld2 => ?_)
      · exact ⟨Blk.keep hb hHeld.1, Blk.keep hb hHeld.2.1, Blk.keep hb hHeld.2.2.1, hHeld.2.2.2.trans (hb.mono hHeld.2.2.2.size)⟩
      clear hHeld hK K; have hHeld := hHeld2; clear hHeld2
      try simp only [Act.put, List.setIfInBounds_toArray, List.set_cons_zero, List.set_cons_succ]
      refine H.take 10 (v := ?_) rfl (by kernel_rfl) (fun _ _ _ h => h) (by rfl) ?_ (by assumption) ?_
      rotate_left
      · (intro wz hSw; (try dsimp only at hSw); go_simp <;> with_reducible rfl)
      try simp only [Act.put, List.setIfInBounds_toArray, List.set_cons_zero, List.set_cons_succ]
      refine H.take 11 (v := ?_) rfl (by kernel_rfl) (fun _ _ _ h => h) (by rfl) ?_ (by assumption) ?_
      rotate_left
      · (intro wz hSw; (try dsimp only at hSw); go_simp <;> with_reducible rfl)
      try simp only [Act.put, List.setIfInBounds_toArray, List.set_cons_zero, List.set_cons_succ]
      refine H.done (by kernel_rfl) ?_ _
      obtain ⟨g1, g2, g3, g4⟩ := hHeld
      have e1 := of_decide_eq_true hd1; have e2 := of_decide_eq_false hd2
      go_wp2_with (first | (go_at_call 58; refine (negative_any _ _ _).mono ?_; rintro e w' ⟨rfl, hb⟩; replace g3 := Blk.keep hb g3; replace g4 := g4.trans (hb.mono g4.size)) | (go_at_call 59; refine (bound_low _).mono ?_; rintro e w' ⟨rfl, hb⟩; replace g3 := Blk.keep hb g3; replace g4 := g4.trans (hb.mono g4.size)) | (go_at_call 59; refine (bound_high _).mono ?_; rintro e w' ⟨rfl, hb⟩; replace g3 := Blk.keep hb g3; replace g4 := g4.trans (hb.mono g4.size)))
      have e3 := of_decide_eq_true hd3
      have hfin := (g3.put (i := 0) (.int .i64 s)).put (i := 1) (.int .u64 ((l1 + 18446744073709551616 - l2) % 18446744073709551616))
      have hres := sub_fits a0 a1 b0 b1 c0 c1 d0 d1 Hs.out hbw.out (by omega)
      exact bodyPost_ret (v := .agg #[.int .i64 s, .int .u64 ((l1 + 18446744073709551616 - l2) % 18446744073709551616)]) (by simp [results, Try.results20, go_sem, (show Blk _ _ #[.int .i64 s, .int .u64 ((l1 + 18446744073709551616 - l2) % 18446744073709551616)] _ from hfin).two]) rfl ⟨ret_w hres.1 hres.2, (g4.setCell (by simp; omega) _).setCell (by simp; omega) _⟩
  · skip
    go_enter Try.func20, Try.ntmps20
    go_wp2
    generalize hs : wrap64 (wrap64 (h1 - h2) - bw) = s
    have Hs := Lib.hid hs; clear hs
    refine wp_region_held_drew (S := (fun w' => Blk w' w.heap.size #[.int .i64 h1, .int .u64 l1] 24 ∧ Blk w' (w.heap.size + 1) #[.int .i64 h2, .int .u64 l2] 24 ∧ Blk w' (w.heap.size + 1 + 1) #[.int .i64 0, .int .u64 0] 24 ∧ Below w.heap.size w w')) (by kernel_rfl) ?_ (fun hHeld => ?_)
    · exact ⟨(((Blk.new rfl).old _).old _).drew, ((Blk.new (by simp)).old _).drew, (Blk.new (by simp)).drew, ((((Below.refl _ _).alloc (Nat.le_refl _) _).alloc (by simp) _).alloc (by simp; omega) _).drew⟩
    refine H.take 0 (v := ?_) rfl (by kernel_rfl) (fun _ _ _ h => h) (by rfl) ?_ (by assumption) ?_
    rotate_left
    · (intro wz hSw; (try dsimp only at hSw); go_simp <;> with_reducible rfl)
    try simp only [Act.put, List.setIfInBounds_toArray, List.set_cons_zero, List.set_cons_succ]
    refine H.take 2 (v := ?_) rfl (by kernel_rfl) (fun _ _ _ h => h) (by rfl) ?_ (by assumption) ?_
    rotate_left
    · (intro wz hSw; (try dsimp only at hSw); go_simp <;> with_reducible rfl)
    try simp only [Act.put, List.setIfInBounds_toArray, List.set_cons_zero, List.set_cons_succ]
    refine H.ready [1] (by kernel_rfl) (by simp) ?_
    refine H.one rfl (by rfl) (fun K hK => ?_) AllReadyH.nil
    go_simp
    go_at_call 58
    refine (negative_any _ _ _).mono ?_
    rintro e w' ⟨rfl, hb⟩
    refine hK.out _ _ ?_ (fun hHeld2 => ?_)
    · exact ⟨Blk.keep hb hHeld.1, Blk.keep hb hHeld.2.1, Blk.keep hb hHeld.2.2.1, hHeld.2.2.2.trans (hb.mono hHeld.2.2.2.size)⟩
    clear hHeld hK K; have hHeld := hHeld2; clear hHeld2
    try simp only [Act.put, List.setIfInBounds_toArray, List.set_cons_zero, List.set_cons_succ]
    refine H.ready [3] (by kernel_rfl) (by simp) ?_
    refine H.one rfl (by rfl) (fun K hK => ?_) AllReadyH.nil
    go_simp
    go_at_call 58
    refine (negative_any _ _ _).mono ?_
    rintro e w' ⟨rfl, hb⟩
    refine hK.out _ _ ?_ (fun hHeld2 => ?_)
    · exact ⟨Blk.keep hb hHeld.1, Blk.keep hb hHeld.2.1, Blk.keep hb hHeld.2.2.1, hHeld.2.2.2.trans (hb.mono hHeld.2.2.2.size)⟩
    clear hHeld hK K; have hHeld := hHeld2; clear hHeld2
    try simp only [Act.put, List.setIfInBounds_toArray, List.set_cons_zero, List.set_cons_succ]
    refine H.take 4 (v := ?_) rfl (by kernel_rfl) (fun _ _ _ h => h) (by rfl) ?_ (by assumption) ?_
    rotate_left
    · (intro wz hSw; (try dsimp only at hSw); go_simp <;> with_reducible rfl)
    try simp only [Act.put, List.setIfInBounds_toArray, List.set_cons_zero, List.set_cons_succ]
    refine H.take 5 (v := ?_) rfl (by kernel_rfl) (fun _ _ _ h => h) (by rfl) ?_ (by assumption) ?_
    rotate_left
    · (intro wz hSw; (try dsimp only at hSw); go_simp <;> with_reducible rfl)
    try simp only [Act.put, List.setIfInBounds_toArray, List.set_cons_zero, List.set_cons_succ]
    refine H.skip 6 rfl (by kernel_rfl) (fun _ _ _ h => h) (by rfl) (by assumption) ?_
    try simp only [Act.put, List.setIfInBounds_toArray, List.set_cons_zero, List.set_cons_succ]
    refine H.skip 7 rfl (by kernel_rfl) (fun _ _ _ h => h) (by rfl) (by assumption) ?_
    try simp only [Act.put, List.setIfInBounds_toArray, List.set_cons_zero, List.set_cons_succ]
    refine H.skip 8 rfl (by kernel_rfl) (fun _ _ _ h => h) (by rfl) (by assumption) ?_
    try simp only [Act.put, List.setIfInBounds_toArray, List.set_cons_zero, List.set_cons_succ]
    refine H.skip 9 rfl (by kernel_rfl) (fun _ _ _ h => h) (by rfl) (by assumption) ?_
    try simp only [Act.put, List.setIfInBounds_toArray, List.set_cons_zero, List.set_cons_succ]
    refine H.skip 10 rfl (by kernel_rfl) (fun _ _ _ h => h) (by rfl) (by assumption) ?_
    try simp only [Act.put, List.setIfInBounds_toArray, List.set_cons_zero, List.set_cons_succ]
    refine H.take 11 (v := ?_) rfl (by kernel_rfl) (fun _ _ _ h => h) (by rfl) ?_ (by assumption) ?_
    rotate_left
    · (intro wz hSw; (try dsimp only at hSw); go_simp <;> with_reducible rfl)
    try simp only [Act.put, List.setIfInBounds_toArray, List.set_cons_zero, List.set_cons_succ]
    refine H.done (by kernel_rfl) ?_ _
    obtain ⟨g1, g2, g3, g4⟩ := hHeld
    have e1 := of_decide_eq_true hd1; have e2 := of_decide_eq_true hd2
    go_wp2_with (first | (go_at_call 58; refine (negative_any _ _ _).mono ?_; rintro e w' ⟨rfl, hb⟩; replace g3 := Blk.keep hb g3; replace g4 := g4.trans (hb.mono g4.size)) | (go_at_call 59; refine (bound_low _).mono ?_; rintro e w' ⟨rfl, hb⟩; replace g3 := Blk.keep hb g3; replace g4 := g4.trans (hb.mono g4.size)) | (go_at_call 59; refine (bound_high _).mono ?_; rintro e w' ⟨rfl, hb⟩; replace g3 := Blk.keep hb g3; replace g4 := g4.trans (hb.mono g4.size)))
    have hfin := (g3.put (i := 0) (.int .i64 s)).put (i := 1) (.int .u64 ((l1 + 18446744073709551616 - l2) % 18446744073709551616))
    have hres := sub_fits a0 a1 b0 b1 c0 c1 d0 d1 Hs.out hbw.out (by omega)
    exact bodyPost_ret (v := .agg #[.int .i64 s, .int .u64 ((l1 + 18446744073709551616 - l2) % 18446744073709551616)]) (by simp [results, Try.results20, go_sem, (show Blk _ _ #[.int .i64 s, .int .u64 ((l1 + 18446744073709551616 - l2) % 18446744073709551616)] _ from hfin).two]) rfl ⟨ret_w hres.1 hres.2, (g4.setCell (by simp; omega) _).setCell (by simp; omega) _⟩

end Go.Proofs.Ytbhgibpocbmipaa

/-
  DERIVED: THE SHELF's CONTRACTS AT THIS DUMP, IN PLAIN WORDS (tools/lay-plain.mjs out of 'TryShelf.lean', which tools/lay-shelf.mjs wrote): THE SAME DECLARATIONS UNDER THE SAME NAMES: 'import', 'namespace', 'open', 'def', 'theorem' AND NOTHING ELSE: no command of the shelf's: FOR A HAND-IN. Each laying: the table of numbers ('.._ren') and one theorem, a field a fact of the dump's own or the kernel's comparison; each contract: ONE APPLICATION.
-/
namespace Go.Proofs
open Go.Shelf
def Try.lays134_ren : Go.Shelf.Ren := ⟨fun | 134 => 76 | 129 => 80 | n => n, fun | 53 => 22 | 3 => 3 | 4 => 4 | 46 => 70 | 5 => 5 | 9 => 9 | n => n, fun | n => n⟩
theorem Try.lays134 : Go.Proofs.Lays.n134 Try.prog Try.lays134_ren := {
  mixed := by kernel_rfl
  f129 := Try.func80.trans (congrArg some (by kernel_rfl))
  f134 := Try.func76.trans (congrArg some (by kernel_rfl))
  t3 := Try.underlying3
  a3 := Try.isAgg3
  z3 := Try.sizeOf3
  v3 := Try.zeroValue3
  t4 := Try.underlying4
  a4 := Try.isAgg4
  z4 := Try.sizeOf4
  v4 := Try.zeroValue4
  t5 := Try.underlying5
  a5 := Try.isAgg5
  z5 := Try.sizeOf5
  v5 := Try.zeroValue5
  t9 := Try.underlying9
  a9 := Try.isAgg9
  z9 := Try.sizeOf9
  v9 := Try.zeroValue9
  t46 := Try.underlying70
  a46 := Try.isAgg70
  z46 := Try.sizeOf70
  v46 := Try.zeroValue70
  t53 := Try.underlying22
  a53 := Try.isAgg22
  z53 := Try.sizeOf22
  v53 := Try.zeroValue22 }
/-- bits.LeadingZeros64: "LeadingZeros64 returns the number of leading zero bits in x; the result is 64 for x == 0.": IT RETURNS '64 - Lib.bitLen x'; the world is as it was. ITS CALLEE bits.Len64 IS MET BY ITS OWN CONTRACT OFF THE SHELF (lay that first): entered in place it sends the kernel out of memory. (LAID: no walk: one application.) -/
theorem Try.bits_LeadingZeros64 (x : Int) (w : World) (h0 : 0 ≤ x) (h1 : x ≤ 18446744073709551615) :
    Calls Try.prog 76 #[.int .u64 x] w fun e w' => e = .returned (.int .i64 (64 - (Lib.bitLen x.toNat : Int))) ∧ w' = w := Any.bits_LeadingZeros64 Try.lays134 x w h0 h1
def Try.lays129_ren : Go.Shelf.Ren := ⟨fun | 129 => 80 | n => n, fun | 53 => 22 | 3 => 3 | 4 => 4 | 46 => 70 | 5 => 5 | 9 => 9 | n => n, fun | n => n⟩
theorem Try.lays129 : Go.Proofs.Lays.n129 Try.prog Try.lays129_ren := {
  mixed := by kernel_rfl
  f129 := Try.func80.trans (congrArg some (by kernel_rfl))
  t3 := Try.underlying3
  a3 := Try.isAgg3
  z3 := Try.sizeOf3
  v3 := Try.zeroValue3
  t4 := Try.underlying4
  a4 := Try.isAgg4
  z4 := Try.sizeOf4
  v4 := Try.zeroValue4
  t5 := Try.underlying5
  a5 := Try.isAgg5
  z5 := Try.sizeOf5
  v5 := Try.zeroValue5
  t9 := Try.underlying9
  a9 := Try.isAgg9
  z9 := Try.sizeOf9
  v9 := Try.zeroValue9
  t46 := Try.underlying70
  a46 := Try.isAgg70
  z46 := Try.sizeOf70
  v46 := Try.zeroValue70
  t53 := Try.underlying22
  a53 := Try.isAgg22
  z53 := Try.sizeOf22
  v53 := Try.zeroValue22 }
/-- bits.Len64: "Len64 returns the minimum number of bits required to represent x; the result is 0 for x == 0.": IT RETURNS 'Lib.bitLen x'; the world is as it was. ('h0', 'h1': x is a uint64.) (LAID: no walk: one application.) -/
theorem Try.bits_Len64 (x : Int) (w : World) (h0 : 0 ≤ x) (h1 : x ≤ 18446744073709551615) :
    Calls Try.prog 80 #[.int .u64 x] w fun e w' => e = .returned (.int .i64 (Lib.bitLen x.toNat)) ∧ w' = w := Any.bits_Len64 Try.lays129 x w h0 h1
def Try.lays264_ren : Go.Shelf.Ren := ⟨fun | 264 => 65 | n => n, fun | 53 => 22 | 46 => 70 | n => n, fun | n => n⟩
theorem Try.lays264 : Go.Proofs.Lays.n264 Try.prog Try.lays264_ren := {
  mixed := by kernel_rfl
  f264 := Try.func65.trans (congrArg some (by kernel_rfl))
  t46 := Try.underlying70
  a46 := Try.isAgg70
  z46 := Try.sizeOf70
  v46 := Try.zeroValue70
  t53 := Try.underlying22
  a53 := Try.isAgg22
  z53 := Try.sizeOf22
  v53 := Try.zeroValue22 }
open Go.RowKit Go.Lib in
theorem Try.bits_Mul64 (x y : Nat) (hx : x < 18446744073709551616) (hy : y < 18446744073709551616) (w : World) :
    Calls Try.prog 65 #[.int .u64 x, .int .u64 y] w fun e w' => e = .returned (.tuple #[.int .u64 ((x * y / 18446744073709551616 : Nat) : Int), .int .u64 ((x * y % 18446744073709551616 : Nat) : Int)]) ∧ w' = w := Any.bits_Mul64 Try.lays264 x y hx hy w
end Go.Proofs


/-
  Contracts of package wide: Neg, Abs, Cmp, Half, magnitude, signer.
-/
namespace Go.Proofs.Ytbhgibpocbmipaa
open Go.RowKit

/-- The two contracts by numbers. -/
theorem add_n {n m : Int} (hn : InR n) (hm : InR m) (w : World) :
    Calls Try.prog 18 #[.agg #[.int .i64 (hi n), .int .u64 (lo n)], .agg #[.int .i64 (hi m), .int .u64 (lo m)]] w fun e w' =>
      e = .returned (.agg #[.int .i64 (hi (clamp (n + m))), .int .u64 (lo (clamp (n + m)))]) ∧ Below w.heap.size w w' := by
  have := add_any (hi n) (lo n) (hi m) (lo m) (lo_bd n).1 (lo_bd n).2 (lo_bd m).1 (lo_bd m).2 (hi_bd hn).1 (hi_bd hn).2 (hi_bd hm).1 (hi_bd hm).2 w
  rwa [hilo, hilo] at this
theorem sub_n {n m : Int} (hn : InR n) (hm : InR m) (w : World) :
    Calls Try.prog 20 #[.agg #[.int .i64 (hi n), .int .u64 (lo n)], .agg #[.int .i64 (hi m), .int .u64 (lo m)]] w fun e w' =>
      e = .returned (.agg #[.int .i64 (hi (clamp (n - m))), .int .u64 (lo (clamp (n - m)))]) ∧ Below w.heap.size w w' := by
  have := sub_any (hi n) (lo n) (hi m) (lo m) (lo_bd n).1 (lo_bd n).2 (lo_bd m).1 (lo_bd m).2 (hi_bd hn).1 (hi_bd hn).2 (hi_bd hm).1 (hi_bd hm).2 w
  rwa [hilo, hilo] at this

set_option maxHeartbeats 1000000 in
theorem neg_any (h l : Int) (a0 : 0 ≤ l) (a1 : l ≤ 18446744073709551615) (c0 : -9223372036854775808 ≤ h) (c1 : h ≤ 9223372036854775807) (w : World) :
    Calls Try.prog 22 #[.agg #[.int .i64 h, .int .u64 l]] w fun e w' =>
      e = .returned (.agg #[.int .i64 (hi (clamp (-(h * 18446744073709551616 + l)))), .int .u64 (lo (clamp (-(h * 18446744073709551616 + l))))]) ∧ Below w.heap.size w w' := by
  have hsub := fun w => sub_any 0 0 h l (by omega) (by omega) a0 a1 (by omega) (by omega) c0 c1 w
  rw [show (0 : Int) * 18446744073709551616 + 0 - (h * 18446744073709551616 + l) = -(h * 18446744073709551616 + l) from by omega] at hsub
  generalize hr : clamp (-(h * 18446744073709551616 + l)) = r at *
  have q1 := fun (w' : World) (h : Blk w' (w.heap.size + 1) #[.int .i64 0, .int .u64 0] 24) => h.two
  have q2 := fun (w' : World) (h : Blk w' (w.heap.size + 1) #[.int .i64 0, .int .u64 0] 24) => h.free0
  have HS := Lib.hid hsub; clear hsub hr
  go_enter Try.func22, Try.ntmps22
  go_wp2_with (go_at_call 20; refine (HS.out _).mono ?_; rintro e w' ⟨rfl, hb⟩; have g := Blk.keep hb (Blk.new (b := w.heap.size + 1) (T := 24) (by simp)); have g4 := (((Below.refl w.heap.size w).alloc (Nat.le_refl _) _).alloc (by simp) _).trans (hb.mono (by simp; omega)))
  have hfin := (g.put (i := 0) (.int .i64 (hi r))).put (i := 1) (.int .u64 (lo r))
  exact bodyPost_ret (v := .agg #[.int .i64 (hi r), .int .u64 (lo r)]) (by simp [results, Try.results22, go_sem, (show Blk _ _ #[.int .i64 (hi r), .int .u64 (lo r)] _ from hfin).two]) rfl ⟨rfl, (g4.setCell (by simp) _).setCell (by simp) _⟩

theorem or_u64 {a b p : Int} (k : Nat) (hp : p = ((2 ^ k : Nat) : Int)) (ha : a % p = 0) (a0 : 0 ≤ a) (a1 : a ≤ 18446744073709551615) (b0 : 0 ≤ b) (b1 : b < p) (hb : b ≤ 18446744073709551615) :
    bits .or .u64 a b = a + b := by
  obtain ⟨x, rfl⟩ := Int.eq_ofNat_of_zero_le a0
  obtain ⟨y, rfl⟩ := Int.eq_ofNat_of_zero_le b0
  subst hp
  rw [bits_or_u64_nat x y (by omega) (by omega)]
  have hx : x % 2 ^ k = 0 := by exact_mod_cast ha
  have hy : y < 2 ^ k := by exact_mod_cast b1
  have hd : 2 ^ k * (x / 2 ^ k) = x := Nat.mul_div_cancel' (Nat.dvd_of_mod_eq_zero hx)
  have := Nat.two_pow_add_eq_or_of_lt hy (x / 2 ^ k)
  rw [hd] at this
  rw [← this]; push_cast; rfl

set_option maxHeartbeats 1000000 in
theorem half_any (h l : Int) (a0 : 0 ≤ l) (a1 : l ≤ 18446744073709551615) (w : World) :
    Calls Try.prog 30 #[.agg #[.int .i64 h, .int .u64 l]] w fun e w' =>
      e = .returned (.agg #[.int .i64 (hi ((h * 18446744073709551616 + l) / 2)), .int .u64 (lo ((h * 18446744073709551616 + l) / 2))]) ∧ Below w.heap.size w w' := by
  have e1 : bits BinOp.or IntKind.u64 (IntKind.u64.wrap (IntKind.u64.wrap h * 9223372036854775808)) (l / 2) = lo ((h * 18446744073709551616 + l) / 2) := by
    simp only [IntKind.wrap_u64]
    rw [or_u64 63 rfl (by omega) (by omega) (by omega) (by omega) (by omega) (by omega)]
    unfold lo; omega
  have e2 : h / 2 = hi ((h * 18446744073709551616 + l) / 2) := by unfold hi; omega
  have E1 := Lib.hid e1; have E2 := Lib.hid e2; clear e1 e2
  go_enter Try.func30, Try.ntmps30
  go_wp2
  refine bodyPost_ret (v := .agg #[.int .i64 (h / 2), .int .u64 (bits BinOp.or IntKind.u64 (IntKind.u64.wrap (IntKind.u64.wrap h * 9223372036854775808)) (l / 2))]) (by simp [results, Try.results30, go_sem]) rfl ⟨ret_w E2.out E1.out, ((Below.refl _ _).alloc (Nat.le_refl _) _).alloc (by simp) _⟩

/-- The size of a number. -/
def sz (n : Int) : Int := if n < 0 then -n else n
theorem sz_pos {n : Int} (h : 0 ≤ n) : sz n = n := by unfold sz; rw [if_neg (by omega)]
theorem sz_neg {n : Int} (h : n < 0) : sz n = -n := by unfold sz; rw [if_pos h]
theorem sz_bd {n : Int} (h : InR n) : 0 ≤ sz n ∧ sz n ≤ 170141183460469231731687303715884105728 := by unfold InR at h; unfold sz; split <;> omega

set_option maxHeartbeats 1000000 in
theorem magnitude_pos {h : Int} (l : Int) (c1 : h ≤ 9223372036854775807) (hn : ¬ h < 0) (w : World) :
    Calls Try.prog 63 #[.agg #[.int .i64 h, .int .u64 l]] w fun e w' =>
      e = .returned (.tuple #[.int .u64 h, .int .u64 l]) ∧ Below w.heap.size w w' := by
  have e1 : IntKind.u64.wrap h = h := by rw [IntKind.wrap_u64]; omega
  have q1 := fun (w' : World) (h : Blk w' (w.heap.size) #[.int .i64 h, .int .u64 l] 24) => h.two
  go_enter Try.func63, Try.ntmps63
  go_wp2_with (go_at_call 58; refine (negative_no _ hn _).mono ?_; rintro e w' ⟨rfl, hb⟩; have g := Blk.keep hb (Blk.new (b := w.heap.size) (T := 24) rfl); have g4 := ((Below.refl w.heap.size w).alloc (Nat.le_refl _) _).trans (hb.mono (by simp)))
  refine wp_region_held_drew (S := (fun w' => Blk w' w.heap.size #[.int .i64 h, .int .u64 l] 24)) (by kernel_rfl) ?_ (fun hHeld => ?_)
  · exact g.drew
  refine H.take 0 (v := ?_) rfl (by kernel_rfl) (fun _ _ _ h => h) (by rfl) ?_ (by assumption) ?_
  rotate_left
  · (intro wz hSw; (try dsimp only at hSw); go_simp <;> with_reducible rfl)
  try simp only [Act.put, List.setIfInBounds_toArray, List.set_cons_zero, List.set_cons_succ]
  refine H.take 1 (v := ?_) rfl (by kernel_rfl) (fun _ _ _ h => h) (by rfl) ?_ (by assumption) ?_
  rotate_left
  · (intro wz hSw; (try dsimp only at hSw); go_simp <;> with_reducible rfl)
  try simp only [Act.put, List.setIfInBounds_toArray, List.set_cons_zero, List.set_cons_succ]
  refine H.take 2 (v := ?_) rfl (by kernel_rfl) (fun _ _ _ h => h) (by rfl) ?_ (by assumption) ?_
  rotate_left
  · (intro wz hSw; (try dsimp only at hSw); go_simp <;> with_reducible rfl)
  try simp only [Act.put, List.setIfInBounds_toArray, List.set_cons_zero, List.set_cons_succ]
  refine H.take 3 (v := ?_) rfl (by kernel_rfl) (fun _ _ _ h => h) (by rfl) ?_ (by assumption) ?_
  rotate_left
  · (intro wz hSw; (try dsimp only at hSw); go_simp <;> with_reducible rfl)
  try simp only [Act.put, List.setIfInBounds_toArray, List.set_cons_zero, List.set_cons_succ]
  refine H.take 4 (v := ?_) rfl (by kernel_rfl) (fun _ _ _ h => h) (by rfl) ?_ (by assumption) ?_
  rotate_left
  · (intro wz hSw; (try dsimp only at hSw); go_simp <;> with_reducible rfl)
  try simp only [Act.put, List.setIfInBounds_toArray, List.set_cons_zero, List.set_cons_succ]
  refine H.take 5 (v := ?_) rfl (by kernel_rfl) (fun _ _ _ h => h) (by rfl) ?_ (by assumption) ?_
  rotate_left
  · (intro wz hSw; (try dsimp only at hSw); go_simp <;> with_reducible rfl)
  try simp only [Act.put, List.setIfInBounds_toArray, List.set_cons_zero, List.set_cons_succ]
  refine H.take 6 (v := ?_) rfl (by kernel_rfl) (fun _ _ _ h => h) (by rfl) ?_ (by assumption) ?_
  rotate_left
  · (intro wz hSw; (try dsimp only at hSw); go_simp <;> with_reducible rfl)
  try simp only [Act.put, List.setIfInBounds_toArray, List.set_cons_zero, List.set_cons_succ]
  refine H.done (by kernel_rfl) ?_ _
  go_wp2
  go_ret2
  exact ⟨rfl, g4.drew⟩
/-- Sub64 with a borrow. -/
theorem run_sub64b (x y b c : Int) (hx : 0 ≤ x) (hy : 0 ≤ y) (hb0 : 0 ≤ b) (hb1 : b ≤ 1) (hx1 : x ≤ 18446744073709551615) (hy1 : y ≤ 18446744073709551615) (hc : c = if x < y + b then 1 else 0) (w : World) :
    (callFunc 61 #[.int .u64 x, .int .u64 y, .int .u64 b]).run Try.prog w =
      .ok (.value (.tuple #[.int .u64 ((x + 18446744073709551616 - y - b) % 18446744073709551616), .int .u64 c])) w := by
  obtain ⟨x, rfl⟩ := Int.eq_ofNat_of_zero_le hx
  obtain ⟨y, rfl⟩ := Int.eq_ofNat_of_zero_le hy
  obtain ⟨b, rfl⟩ := Int.eq_ofNat_of_zero_le hb0
  rw [run_callFunc_extern Try.func61 (by kernel_rfl) (by kernel_rfl) (by kernel_rfl) (e := Go.Proofs.sub64Entry) (by kernel_rfl), Go.Proofs.run_sub64 x y b (by omega)]
  simp only [Result.andThen]
  have e1 : (((x + 18446744073709551616 - y - b) % 18446744073709551616 : Nat) : Int) = ((x : Int) + 18446744073709551616 - y - b) % 18446744073709551616 := by omega
  have e2 : ((if x < y + b then 1 else 0 : Nat) : Int) = c := by
    rw [hc]; by_cases h : x < y + b
    · rw [if_pos (by omega), if_pos (by omega)]; rfl
    · rw [if_neg (by omega), if_neg (by omega)]; rfl
  rw [e1, e2]

set_option maxHeartbeats 1000000 in
theorem magnitude_neg {h l : Int} (a0 : 0 ≤ l) (a1 : l ≤ 18446744073709551615) (c0 : -9223372036854775808 ≤ h) (hn : h < 0) (w : World) :
    Calls Try.prog 63 #[.agg #[.int .i64 h, .int .u64 l]] w fun e w' =>
      e = .returned (.tuple #[.int .u64 (hi (-(h * 18446744073709551616 + l))), .int .u64 (lo (-(h * 18446744073709551616 + l)))]) ∧ Below w.heap.size w w' := by
  obtain ⟨b, hb0⟩ : ∃ b : Int, b = if 0 < l then 1 else 0 := ⟨_, rfl⟩
  obtain ⟨b2, hb3⟩ : ∃ b2 : Int, b2 = if 0 < h + 18446744073709551616 + b then 1 else 0 := ⟨_, rfl⟩
  have b0 : 0 ≤ b := by split at hb0 <;> omega
  have b1 : b ≤ 1 := by split at hb0 <;> omega
  have hs1 := fun w => run_sub64 0 l b (by omega) a0 (by omega) a1 hb0 w
  have hs2 := fun w => run_sub64b 0 (h + 18446744073709551616) b b2 (by omega) (by omega) b0 b1 (by omega) (by omega) hb3 w
  have e0 : IntKind.u64.wrap h = h + 18446744073709551616 := by rw [IntKind.wrap_u64]; omega
  have e1 : (0 + 18446744073709551616 - (h + 18446744073709551616) - b) % 18446744073709551616 = hi (-(h * 18446744073709551616 + l)) := by
    unfold hi; split at hb0 <;> omega
  have e2 : (0 + 18446744073709551616 - l) % 18446744073709551616 = lo (-(h * 18446744073709551616 + l)) := by
    unfold lo; omega
  rw [e2] at hs1; rw [e1] at hs2
  clear e1 e2 hb0 hb3
  generalize hi (-(h * 18446744073709551616 + l)) = X at *
  generalize lo (-(h * 18446744073709551616 + l)) = Y at *
  have q1 := fun (w' : World) (h : Blk w' (w.heap.size) #[.int .i64 h, .int .u64 l] 24) => h.two
  go_enter Try.func63, Try.ntmps63
  go_wp2_with (go_at_call 58; refine (negative_yes _ hn _).mono ?_; rintro e w' ⟨rfl, hb⟩; have g := Blk.keep hb (Blk.new (b := w.heap.size) (T := 24) rfl); have g4 := ((Below.refl w.heap.size w).alloc (Nat.le_refl _) _).trans (hb.mono (by simp)))
  go_ret2
  exact ⟨rfl, g4⟩
theorem magnitude_n {n : Int} (hn : InR n) (w : World) :
    Calls Try.prog 63 #[.agg #[.int .i64 (hi n), .int .u64 (lo n)]] w fun e w' =>
      e = .returned (.tuple #[.int .u64 (hi (sz n)), .int .u64 (lo (sz n))]) ∧ Below w.heap.size w w' := by
  by_cases h : n < 0
  · have := magnitude_neg (lo_bd n).1 (lo_bd n).2 (hi_bd hn).1 ((hi_neg n).2 h) w
    rwa [hilo, ← sz_neg h] at this
  · have := magnitude_pos (lo n) (hi_bd hn).2 (fun k => h ((hi_neg n).1 k)) w
    rwa [sz_pos (by omega)]

set_option maxHeartbeats 1000000 in
theorem signer_any (m : Bool) (w : World) :
    Calls Try.prog 64 #[.bool m] w fun e w' => e = .returned (.func (.func 75) #[] #[.pointer (some ⟨w.heap.size, 0, none⟩)]) ∧ w' = w.alloc (.cells #[.bool m] 4) := by
  go_enter Try.func64, Try.ntmps64
  have hmf : ∀ (fn : Fn) (first cap : Array Value) (w : World), (Instr.makeFunc fn first cap).run Try.prog w = .ok (.func fn first cap) w := fun _ _ _ _ => rfl
  go_wp2
  go_ret
  exact ⟨rfl, rfl⟩

/-- With its sign. -/
def sgn (m : Bool) (u : Int) : Int := if m then -u else u
set_option maxHeartbeats 1000000 in
theorem signed_any (m : Bool) {x y : Int} (x0 : 0 ≤ x) (x1 : x ≤ 18446744073709551615) (y0 : 0 ≤ y) (y1 : y ≤ 18446744073709551615) {b : Nat} {w : World} (g : Blk w b #[.bool m] 4) :
    Calls Try.prog 75 #[.int .u64 x, .int .u64 y, .pointer (some ⟨b, 0, none⟩)] w fun e w' =>
      e = .returned (.agg #[.int .i64 (hi (clamp (sgn m (x * 18446744073709551616 + y)))), .int .u64 (lo (clamp (sgn m (x * 18446744073709551616 + y))))]) ∧ Below w.heap.size w w' := by
  have g0 := g.lt
  have g1 := g.one
  rcases (by omega : 9223372036854775807 < x ∨ x ≤ 9223372036854775807) with hx | hx
  · have hcell : ∀ o, (w.alloc o).cell? ⟨b, 0, none⟩ = some (.bool m) := fun o => (g.old o).one
    have hres : hi (clamp (sgn m (x * 18446744073709551616 + y))) = (if m then -9223372036854775808 else 9223372036854775807) ∧ lo (clamp (sgn m (x * 18446744073709551616 + y))) = (if m then 0 else 18446744073709551615) := by
      unfold sgn clamp hi lo
      cases m
      · simp only [Bool.false_eq_true, if_false]; rw [if_neg (by omega), if_pos (by omega)]; omega
      · simp only [if_true]; split
        · omega
        · have : -(x * 18446744073709551616 + y) = -170141183460469231731687303715884105728 := by omega
          rw [if_neg (by omega), this]; omega
    rw [hres.1, hres.2]; clear hres
    have q1 := fun (w' : World) (h : Blk w' w.heap.size #[.int .i64 0, .int .u64 0] 24) => h.two
    have q2 := fun (w' : World) (h : Blk w' w.heap.size #[.int .i64 0, .int .u64 0] 24) => h.free0
    cases m
    · go_enter Try.func75, Try.ntmps75
      go_wp2_with (go_at_call 59; refine (bound_high _).mono ?_; rintro e w' ⟨rfl, hb⟩; have g := Blk.keep hb (Blk.new (b := w.heap.size) (T := 24) rfl); have gB := ((Below.refl w.heap.size w).alloc (Nat.le_refl _) _).trans (hb.mono (by simp)))
      have hfin := (g.put (i := 0) (.int .i64 9223372036854775807)).put (i := 1) (.int .u64 18446744073709551615)
      exact bodyPost_ret (v := .agg #[.int .i64 9223372036854775807, .int .u64 18446744073709551615]) (by simp [results, Try.results75, go_sem, (show Blk _ _ #[.int .i64 9223372036854775807, .int .u64 18446744073709551615] _ from hfin).two]) rfl ⟨rfl, (gB.setCell (by simp) _).setCell (by simp) _⟩
    · go_enter Try.func75, Try.ntmps75
      go_wp2_with (go_at_call 59; refine (bound_low _).mono ?_; rintro e w' ⟨rfl, hb⟩; have g := Blk.keep hb (Blk.new (b := w.heap.size) (T := 24) rfl); have gB := ((Below.refl w.heap.size w).alloc (Nat.le_refl _) _).trans (hb.mono (by simp)))
      have hfin := (g.put (i := 0) (.int .i64 (-9223372036854775808))).put (i := 1) (.int .u64 0)
      exact bodyPost_ret (v := .agg #[.int .i64 (-9223372036854775808), .int .u64 0]) (by simp [results, Try.results75, go_sem, (show Blk _ _ #[.int .i64 (-9223372036854775808), .int .u64 0] _ from hfin).two]) rfl ⟨rfl, (gB.setCell (by simp) _).setCell (by simp) _⟩
  · have hcell : ∀ o, (w.alloc o).cell? ⟨b, 0, none⟩ = some (.bool m) := fun o => (g.old o).one
    have hcell2 : ∀ o o2, ((w.alloc o).alloc o2).cell? ⟨b, 0, none⟩ = some (.bool m) := fun o o2 => ((g.old o).old o2).one
    have q1 := fun (w' : World) (h : Blk w' w.heap.size #[.int .i64 0, .int .u64 0] 24) => h.two
    have q2 := fun (w' : World) (h : Blk w' w.heap.size #[.int .i64 0, .int .u64 0] 24) => h.free0
    have ei : IntKind.i64.wrap x = x := by rw [IntKind.wrap_i64]; omega
    have hneg := fun w => neg_any x y y0 y1 (by omega) hx w
    cases m
    · have hres : clamp (sgn false (x * 18446744073709551616 + y)) = x * 18446744073709551616 + y := by
        unfold sgn; simp only [Bool.false_eq_true, if_false]; exact clamp_of (inR_of y0 y1 (by omega) hx)
      rw [hres, hi_of y0 y1 rfl, lo_of y0 y1 rfl]
      clear hneg hres
      go_enter Try.func75, Try.ntmps75
      go_wp2
      exact bodyPost_ret (v := .agg #[.int .i64 x, .int .u64 y]) (by simp [results, Try.results75, go_sem]) rfl ⟨rfl, ((Below.refl _ _).alloc (Nat.le_refl _) _).alloc (by simp) _⟩
    · unfold sgn; simp only [if_true]
      generalize clamp (-(x * 18446744073709551616 + y)) = r at *
      have HN := Lib.hid hneg; clear hneg
      go_enter Try.func75, Try.ntmps75
      go_wp2_with (go_at_call 22; refine (HN.out _).mono ?_; rintro e w' ⟨rfl, hb⟩; have g := Blk.keep hb (Blk.old (Blk.new (b := w.heap.size) (T := 24) rfl) _); have gB := (((Below.refl w.heap.size w).alloc (Nat.le_refl _) _).alloc (by simp) _).trans (hb.mono (by simp; omega)))
      have hfin := (g.put (i := 0) (.int .i64 (hi r))).put (i := 1) (.int .u64 (lo r))
      exact bodyPost_ret (v := .agg #[.int .i64 (hi r), .int .u64 (lo r)]) (by simp [results, Try.results75, go_sem, (show Blk _ _ #[.int .i64 (hi r), .int .u64 (lo r)] _ from hfin).two]) rfl ⟨rfl, (gB.setCell (by simp) _).setCell (by simp) _⟩

theorem mul64_i (x y : Int) (x0 : 0 ≤ x) (x1 : x ≤ 18446744073709551615) (y0 : 0 ≤ y) (y1 : y ≤ 18446744073709551615) (w : World) :
    Calls Try.prog 65 #[.int .u64 x, .int .u64 y] w fun e w' => e = .returned (.tuple #[.int .u64 (hi (x * y)), .int .u64 (lo (x * y))]) ∧ w = w' := by
  obtain ⟨a, rfl⟩ := Int.eq_ofNat_of_zero_le x0
  obtain ⟨b, rfl⟩ := Int.eq_ofNat_of_zero_le y0
  refine (Try.bits_Mul64 a b (by omega) (by omega) w).mono ?_
  rintro e w' ⟨rfl, rfl⟩
  exact ⟨rfl, rfl⟩

end Go.Proofs.Ytbhgibpocbmipaa


/-
  Contracts of package wide: Abs, Cmp, Clip; and of the statements' own 'ends'.
-/
namespace Go.Proofs.Ytbhgibpocbmipaa
open Go.RowKit

theorem hi_nn {x : Int} (h : 0 ≤ x) : 0 ≤ hi x := by unfold hi; omega
theorem hi_le {x c : Int} (h : x ≤ c) : hi x ≤ c / 18446744073709551616 := by unfold hi; omega
theorem neg_n {n : Int} (hn : InR n) (w : World) :
    Calls Try.prog 22 #[.agg #[.int .i64 (hi n), .int .u64 (lo n)]] w fun e w' =>
      e = .returned (.agg #[.int .i64 (hi (clamp (-n))), .int .u64 (lo (clamp (-n)))]) ∧ Below w.heap.size w w' := by
  have := neg_any (hi n) (lo n) (lo_bd n).1 (lo_bd n).2 (hi_bd hn).1 (hi_bd hn).2 w
  rwa [hilo] at this
theorem half_n (n : Int) (w : World) :
    Calls Try.prog 30 #[.agg #[.int .i64 (hi n), .int .u64 (lo n)]] w fun e w' =>
      e = .returned (.agg #[.int .i64 (hi (n / 2)), .int .u64 (lo (n / 2))]) ∧ Below w.heap.size w w' := by
  have := half_any (hi n) (lo n) (lo_bd n).1 (lo_bd n).2 w
  rwa [hilo] at this
theorem negative_n (n : Int) (w : World) :
    Calls Try.prog 58 #[.agg #[.int .i64 (hi n), .int .u64 (lo n)]] w fun e w' => e = .returned (.bool (decide (n < 0))) ∧ Below w.heap.size w w' := by
  have := negative_any (hi n) (lo n) w
  rwa [decide_eq_decide.2 (hi_neg n)] at this

set_option maxHeartbeats 1000000 in
theorem abs_n {n : Int} (hn : InR n) (w : World) :
    Calls Try.prog 23 #[.agg #[.int .i64 (hi n), .int .u64 (lo n)]] w fun e w' =>
      e = .returned (.agg #[.int .i64 (hi (clamp (sz n))), .int .u64 (lo (clamp (sz n)))]) ∧ Below w.heap.size w w' := by
  have q1 := fun (w' : World) (h : Blk w' w.heap.size #[.int .i64 (hi n), .int .u64 (lo n)] 24) => h.two
  have q2 := fun (w' : World) (h : Blk w' (w.heap.size + 1) #[.int .i64 0, .int .u64 0] 24) => h.two
  have q3 := fun (w' : World) (h : Blk w' (w.heap.size + 1) #[.int .i64 0, .int .u64 0] 24) => h.free0
  rcases hd : decide (n < 0) with _ | _
  · have hs := of_decide_eq_false hd
    rw [sz_pos (by omega), clamp_of hn]
    go_enter Try.func23, Try.ntmps23
    go_wp2_with (go_at_call 58; refine (negative_n _ _).mono ?_; rintro e w1 ⟨rfl, hb1⟩; have g := Blk.keep hb1 (Blk.new (b := w.heap.size + 1) (T := 24) (by simp)); have gA := Blk.keep hb1 (Blk.old (Blk.new (b := w.heap.size) (T := 24) rfl) _); have gB := (((Below.refl w.heap.size w).alloc (Nat.le_refl _) _).alloc (by simp) _).trans (hb1.mono (by simp; omega)))
    have hfin := (g.put (i := 0) (.int .i64 (hi n))).put (i := 1) (.int .u64 (lo n))
    exact bodyPost_ret (v := .agg #[.int .i64 (hi n), .int .u64 (lo n)]) (by simp [results, Try.results23, go_sem, (show Blk _ _ #[.int .i64 (hi n), .int .u64 (lo n)] _ from hfin).two]) rfl ⟨rfl, (gB.setCell (by simp) _).setCell (by simp) _⟩
  · have hs := of_decide_eq_true hd
    rw [sz_neg hs]
    go_enter Try.func23, Try.ntmps23
    go_wp2_with (first | (go_at_call 58; refine (negative_n _ _).mono ?_; rintro e w1 ⟨rfl, hb1⟩; have g := Blk.keep hb1 (Blk.new (b := w.heap.size + 1) (T := 24) (by simp)); have gA := Blk.keep hb1 (Blk.old (Blk.new (b := w.heap.size) (T := 24) rfl) _); have gB := (((Below.refl w.heap.size w).alloc (Nat.le_refl _) _).alloc (by simp) _).trans (hb1.mono (by simp; omega))) | (go_at_call 22; refine (neg_n hn _).mono ?_; rintro e w1 ⟨rfl, hb1⟩; replace g := Blk.keep hb1 g; replace gB := gB.trans (hb1.mono gB.size)))
    have hfin := (g.put (i := 0) (.int .i64 (hi (clamp (-n))))).put (i := 1) (.int .u64 (lo (clamp (-n))))
    exact bodyPost_ret (v := .agg #[.int .i64 (hi (clamp (-n))), .int .u64 (lo (clamp (-n)))]) (by simp [results, Try.results23, go_sem, (show Blk _ _ #[.int .i64 (hi (clamp (-n))), .int .u64 (lo (clamp (-n)))] _ from hfin).two]) rfl ⟨rfl, (gB.setCell (by simp) _).setCell (by simp) _⟩

/-- Which is greater, as -1, 0, 1. -/
def cmpI (a b : Int) : Int := if a = b then 0 else if a < b then -1 else 1
theorem hilo_lt (a b : Int) : a < b ↔ hi a < hi b ∨ hi a = hi b ∧ lo a < lo b := by unfold hi lo; omega

set_option maxHeartbeats 1000000 in
theorem cmp_n (a b : Int) (w : World) :
    Calls Try.prog 24 #[.agg #[.int .i64 (hi a), .int .u64 (lo a)], .agg #[.int .i64 (hi b), .int .u64 (lo b)]] w fun e w' =>
      e = .returned (.int .i64 (cmpI a b)) ∧ Below w.heap.size w w' := by
  have hlt := hilo_lt a b
  by_cases h : a = b
  · subst h
    rw [show cmpI a a = 0 by unfold cmpI; rw [if_pos rfl]]
    clear hlt
    go_enter Try.func24, Try.ntmps24
    go_wp2
    go_ret
    exact ⟨rfl, ((Below.refl _ _).alloc (Nat.le_refl _) _).alloc (by simp) _⟩
  · have hne : ¬ (hi a = hi b ∧ lo a = lo b) := fun k => h (hilo_inj k.1 k.2)
    by_cases hl : a < b
    · rw [show cmpI a b = -1 by unfold cmpI; rw [if_neg h, if_pos hl]]
      rw [hlt] at hl
      clear hlt h
      generalize hi a = A at *; generalize lo a = B at *; generalize hi b = C at *; generalize lo b = D at *
      by_cases h1 : A < C
      · have e1 : (A == C) = false := by rw [beq_eq_false_iff_ne]; omega
        clear hne hl
        go_enter Try.func24, Try.ntmps24
        go_wp2
        go_ret
        exact ⟨rfl, ((Below.refl _ _).alloc (Nat.le_refl _) _).alloc (by simp) _⟩
      · obtain ⟨rfl, h2⟩ : A = C ∧ B < D := by omega
        clear hne hl
        go_enter Try.func24, Try.ntmps24
        go_wp2
        go_ret
        exact ⟨rfl, ((Below.refl _ _).alloc (Nat.le_refl _) _).alloc (by simp) _⟩
    · rw [show cmpI a b = 1 by unfold cmpI; rw [if_neg h, if_neg hl]]
      rw [hlt] at hl
      clear hlt h
      generalize hi a = A at *; generalize lo a = B at *; generalize hi b = C at *; generalize lo b = D at *
      by_cases h1 : C < A
      · have e1 : (A == C) = false := by rw [beq_eq_false_iff_ne]; omega
        have h2 : ¬ A < C := by omega
        clear hne hl
        go_enter Try.func24, Try.ntmps24
        go_wp2
        go_ret
        exact ⟨rfl, ((Below.refl _ _).alloc (Nat.le_refl _) _).alloc (by simp) _⟩
      · obtain ⟨rfl, h2⟩ : A = C ∧ D < B := by omega
        have h3 : ¬ B < D := by omega
        clear hne hl
        go_enter Try.func24, Try.ntmps24
        go_wp2
        go_ret
        exact ⟨rfl, ((Below.refl _ _).alloc (Nat.le_refl _) _).alloc (by simp) _⟩

end Go.Proofs.Ytbhgibpocbmipaa


/-
  Contracts of package wide: Mul, Scale.
-/
namespace Go.Proofs.Ytbhgibpocbmipaa
open Go.RowKit
theorem mul_bd {x y : Int} (x0 : 0 ≤ x) (x1 : x ≤ 9223372036854775808) (y0 : 0 ≤ y) (y1 : y ≤ 9223372036854775808) : 0 ≤ x * y ∧ x * y ≤ 85070591730234615865843651857942052864 := by
  refine ⟨Int.mul_nonneg x0 y0, ?_⟩
  have := Int.mul_le_mul x1 y1 y0 (by omega)
  exact this
theorem sgn_mul {a b : Int} (a0 : -9223372036854775808 ≤ a) (a1 : a ≤ 9223372036854775807) (b0 : -9223372036854775808 ≤ b) (b1 : b ≤ 9223372036854775807) :
    clamp (sgn (decide (a < 0) != decide (b < 0)) (sz a * sz b)) = a * b := by
  rcases (by omega : a < 0 ∨ 0 ≤ a) with ha | ha <;> rcases (by omega : b < 0 ∨ 0 ≤ b) with hb | hb
  · have h := mul_bd (x := -a) (y := -b) (by omega) (by omega) (by omega) (by omega)
    rw [sz_neg ha, sz_neg hb, decide_eq_true ha, decide_eq_true hb, Int.neg_mul_neg] at *
    simp only [bne_self_eq_false, sgn, Bool.false_eq_true, if_false]
    exact clamp_of (by unfold InR; omega)
  · have h := mul_bd (x := -a) (y := b) (by omega) (by omega) (by omega) (by omega)
    rw [sz_neg ha, sz_pos hb, decide_eq_true ha, decide_eq_false (by omega)]
    rw [Int.neg_mul] at *
    simp only [sgn, bne, Bool.true_beq, Bool.not_false, if_true, Int.neg_neg]
    exact clamp_of (by unfold InR; omega)
  · have h := mul_bd (x := a) (y := -b) (by omega) (by omega) (by omega) (by omega)
    rw [sz_pos ha, sz_neg hb, decide_eq_false (by omega), decide_eq_true hb]
    rw [Int.mul_neg] at *
    simp only [sgn, bne, Bool.false_beq, Bool.not_true, Bool.not_false, if_true, Int.neg_neg]
    exact clamp_of (by unfold InR; omega)
  · have h := mul_bd (x := a) (y := b) (by omega) (by omega) (by omega) (by omega)
    rw [sz_pos ha, sz_pos hb, decide_eq_false (by omega), decide_eq_false (by omega)]
    simp only [bne_self_eq_false, sgn, Bool.false_eq_true, if_false]
    exact clamp_of (by unfold InR; omega)

set_option maxHeartbeats 1000000 in
theorem mul_any (a b : Int) (a0 : -9223372036854775808 ≤ a) (a1 : a ≤ 9223372036854775807) (b0 : -9223372036854775808 ≤ b) (b1 : b ≤ 9223372036854775807) (w : World) :
    Calls Try.prog 26 #[.int .i64 a, .int .i64 b] w fun e w' =>
      e = .returned (.agg #[.int .i64 (hi (a * b)), .int .u64 (lo (a * b))]) ∧ Below w.heap.size w w' := by
  have ha : InR a := by unfold InR; omega
  have hb : InR b := by unfold InR; omega
  have sa : 0 ≤ sz a ∧ sz a ≤ 9223372036854775808 := by unfold sz; split <;> omega
  have sb : 0 ≤ sz b ∧ sz b ≤ 9223372036854775808 := by unfold sz; split <;> omega
  have ma := fun w => magnitude_n ha w
  have mb := fun w => magnitude_n hb w
  rw [show lo (sz a) = sz a by unfold lo; omega] at ma
  rw [show lo (sz b) = sz b by unfold lo; omega] at mb
  have mm := fun w => mul64_i (sz a) (sz b) sa.1 (by omega) sb.1 (by omega) w
  have hfin := sgn_mul a0 a1 b0 b1
  have hs := fun (n : Nat) (w : World) (g : Blk w n #[.bool (decide (a < 0) != decide (b < 0))] 4) => signed_any (decide (a < 0) != decide (b < 0)) (x := hi (sz a * sz b)) (y := lo (sz a * sz b)) (by have := mul_bd sa.1 sa.2 sb.1 sb.2; unfold hi; omega) (by have := mul_bd sa.1 sa.2 sb.1 sb.2; unfold hi; omega) (lo_bd _).1 (lo_bd _).2 g
  rw [hilo, hfin] at hs
  have q1 := fun (w' : World) (h : Blk w' w.heap.size #[.int .i64 0, .int .u64 0] 24) => h.two
  have q2 := fun (w' : World) (h : Blk w' w.heap.size #[.int .i64 0, .int .u64 0] 24) => h.free0
  have MA := Lib.hid ma; have MB := Lib.hid mb; have MM := Lib.hid mm; have HS := Lib.hid hs
  clear ma mb mm hs hfin
  generalize sz a = xa at *; generalize sz b = xb at *
  go_enter Try.func26, Try.ntmps26
  go_wp2_with (first | (go_at_call 15; refine (of_any _ ?_ ?_ _).mono ?_; omega; omega; rintro e w1 ⟨rfl, hb1⟩; (first | (replace g := Blk.keep hb1 g; replace gB := gB.trans (hb1.mono gB.size)) | (have g := Blk.keep hb1 (Blk.new (b := w.heap.size) (T := 24) rfl); have gB := ((Below.refl w.heap.size w).alloc (Nat.le_refl _) _).trans (hb1.mono (by simp))))) | (go_at_call 63; (first | ((with_reducible refine (MA.out _).mono ?_); rintro e w1 ⟨rfl, hb1⟩) | ((with_reducible refine (MB.out _).mono ?_); rintro e w1 ⟨rfl, hb1⟩)); replace g := Blk.keep hb1 g; replace gB := gB.trans (hb1.mono gB.size)) | (go_at_call 64; refine (signer_any _ _).mono ?_; rintro e w1 ⟨rfl, rfl⟩; replace g := Blk.old g (.cells #[.bool (decide (a < 0) != decide (b < 0))] 4); replace gB := gB.alloc gB.size (.cells #[.bool (decide (a < 0) != decide (b < 0))] 4)) | (go_at_call 65; refine (MM.out _).mono ?_; rintro e w1 ⟨rfl, rfl⟩) | (go_at_call 75; refine (HS.out _ _ (Blk.new rfl)).mono ?_; rintro e w1 ⟨rfl, hb1⟩; replace g := Blk.keep hb1 g; replace gB := gB.trans (hb1.mono gB.size)))
  have hfin := (g.put (i := 0) (.int .i64 (hi (a * b)))).put (i := 1) (.int .u64 (lo (a * b)))
  exact bodyPost_ret (v := .agg #[.int .i64 (hi (a * b)), .int .u64 (lo (a * b))]) (by simp [results, Try.results26, go_sem, (show Blk _ _ #[.int .i64 (hi (a * b)), .int .u64 (lo (a * b))] _ from hfin).two]) rfl ⟨rfl, (gB.setCell (by simp) _).setCell (by simp) _⟩

/-- A size times a number of 32 bits, in two words. -/
theorem scale_parts (H L n A B C D : Int) (hA : A = hi (L * n)) (hB : B = lo (L * n)) (hC : C = hi (H * n)) (hD : D = lo (H * n)) :
    (H * 18446744073709551616 + L) * n = (C * 18446744073709551616 + D + A) * 18446744073709551616 + B := by
  have h1 := hilo (L * n); have h2 := hilo (H * n)
  rw [← hA, ← hB] at h1; rw [← hC, ← hD] at h2
  rw [Int.add_mul, Int.mul_right_comm, ← h1, ← h2]; omega

theorem sgn_scale (n k : Int) : sgn (decide (n < 0)) (sz n * k) = n * k := by
  rcases (by omega : n < 0 ∨ 0 ≤ n) with h | h
  · rw [sz_neg h, decide_eq_true h]; simp only [sgn, if_true]; rw [Int.neg_mul, Int.neg_neg]
  · rw [sz_pos h, decide_eq_false (by omega)]; simp only [sgn, Bool.false_eq_true, if_false]

set_option maxHeartbeats 1000000 in
theorem scale_any {n : Int} {k : Int} (hn : InR n) (k0 : 0 ≤ k) (k1 : k ≤ 4294967295) (w : World) :
    Calls Try.prog 28 #[.agg #[.int .i64 (hi n), .int .u64 (lo n)], .int .u32 k] w fun e w' =>
      e = .returned (.agg #[.int .i64 (hi (clamp (n * k))), .int .u64 (lo (clamp (n * k)))]) ∧ Below w.heap.size w w' := by
  have hs := sz_bd hn
  have lb := lo_bd (sz n)
  have hb0 : 0 ≤ hi (sz n) := hi_nn hs.1
  have hb1 : hi (sz n) ≤ 9223372036854775808 := hi_le hs.2
  have eN : IntKind.u64.wrap k = k := by rw [IntKind.wrap_u64]; omega
  have ma := fun w => magnitude_n hn w
  have m1 := fun w => mul64_i (lo (sz n)) k lb.1 lb.2 k0 (by omega) w
  have m2 := fun w => mul64_i (hi (sz n)) k hb0 (by omega) k0 (by omega) w
  have hp := scale_parts (hi (sz n)) (lo (sz n)) k _ _ _ _ rfl rfl rfl rfl
  rw [hilo] at hp
  have a1 := lo_bd (lo (sz n) * k); have a2 := lo_bd (hi (sz n) * k)
  have a3 : 0 ≤ hi (lo (sz n) * k) := hi_nn (Int.mul_nonneg lb.1 k0)
  have a4 : hi (lo (sz n) * k) ≤ 4294967295 := by have := hi_le (Int.mul_le_mul lb.2 k1 k0 (by omega)); omega
  have a5 : 0 ≤ hi (hi (sz n) * k) := hi_nn (Int.mul_nonneg hb0 k0)
  have a6 : hi (hi (sz n) * k) ≤ 4294967295 := by have := hi_le (Int.mul_le_mul hb1 k1 k0 (by omega)); omega
  generalize hi (lo (sz n) * k) = A at *
  generalize lo (lo (sz n) * k) = B at *
  generalize hi (hi (sz n) * k) = C at *
  generalize lo (hi (sz n) * k) = D at *
  have hadd := fun w => run_add64 D A 0 a2.1 a3 (by omega) (by omega) w
  have q1 := fun (w' : World) (h : Blk w' w.heap.size #[.int .i64 (hi n), .int .u64 (lo n)] 24) => h.two
  have q2 := fun (w' : World) (h : Blk w' (w.heap.size + 1) #[.int .i64 0, .int .u64 0] 24) => h.two
  have q3 := fun (w' : World) (h : Blk w' (w.heap.size + 1) #[.int .i64 0, .int .u64 0] 24) => h.free0
  have MA := Lib.hid ma; have M1 := Lib.hid m1; have M2 := Lib.hid m2; have HP := Lib.hid hp
  clear ma m1 m2 hp
  rcases (by omega : C + (D + A) / 18446744073709551616 = 0 ∨ 0 < C + (D + A) / 18446744073709551616) with hfit | hfit
  · have hres : clamp (sgn (decide (n < 0)) ((D + A) % 18446744073709551616 * 18446744073709551616 + B)) = clamp (n * k) := by
      rw [← sgn_scale n k, HP.out]; congr 2; omega
    have hs := fun (b : Nat) (w : World) (g : Blk w b #[.bool (decide (n < 0))] 4) => signed_any (decide (n < 0)) (x := (D + A) % 18446744073709551616) (y := B) (by omega) (by omega) a1.1 a1.2 g
    rw [hres] at hs; clear hres
    have HS := Lib.hid hs; clear hs
    have e0 : C = 0 := by omega
    have e1 : (D + A) / 18446744073709551616 = 0 := by omega
    subst e0; clear hfit
    go_enter Try.func28, Try.ntmps28
    go_wp2_with (first | (go_at_call 63; refine (MA.out _).mono ?_; rintro e w1 ⟨rfl, hb1⟩; have g := Blk.keep hb1 (Blk.new (b := w.heap.size + 1) (T := 24) (by simp)); have gA := Blk.keep hb1 (Blk.old (Blk.new (b := w.heap.size) (T := 24) rfl) _); have gB := (((Below.refl w.heap.size w).alloc (Nat.le_refl _) _).alloc (by simp) _).trans (hb1.mono (by simp; omega))) | (go_at_call 65; (first | ((with_reducible refine (M1.out _).mono ?_); rintro e w1 ⟨rfl, rfl⟩) | ((with_reducible refine (M2.out _).mono ?_); rintro e w1 ⟨rfl, rfl⟩))) | (go_at_call 58; refine (negative_n _ _).mono ?_; rintro e w1 ⟨rfl, hb1⟩; replace g := Blk.keep hb1 g; replace gA := Blk.keep hb1 gA; replace gB := gB.trans (hb1.mono gB.size)) | (go_at_call 64; refine (signer_any _ _).mono ?_; rintro e w1 ⟨rfl, rfl⟩; replace g := Blk.old g (.cells #[.bool (decide (n < 0))] 4); replace gB := gB.alloc gB.size (.cells #[.bool (decide (n < 0))] 4)))
    refine (HS.out _ _ (Blk.new rfl)).mono ?_
    rintro e w1 ⟨rfl, hb1⟩; replace g := Blk.keep hb1 g; replace gB := gB.trans (hb1.mono gB.size)
    go_wp2
    have hfin := (g.put (i := 0) (.int .i64 (hi (clamp (n * k))))).put (i := 1) (.int .u64 (lo (clamp (n * k))))
    exact bodyPost_ret (v := .agg #[.int .i64 (hi (clamp (n * k))), .int .u64 (lo (clamp (n * k)))]) (by simp [results, Try.results28, go_sem, (show Blk _ _ #[.int .i64 (hi (clamp (n * k))), .int .u64 (lo (clamp (n * k)))] _ from hfin).two]) rfl ⟨rfl, (gB.setCell (by simp) _).setCell (by simp) _⟩
  · have hbig : 340282366920938463463374607431768211456 ≤ sz n * k := by rw [HP.out]; omega
    have e1 : ((C + (D + A) / 18446744073709551616) != 0) = true := by rw [bne_iff_ne]; omega
    have e2 : ((C + (D + A) / 18446744073709551616) == 0) = false := by rw [beq_eq_false_iff_ne]; omega
    rcases (by omega : n < 0 ∨ ¬ n < 0) with hneg | hneg
    · have hd := decide_eq_true hneg
      have hr : clamp (n * k) = -170141183460469231731687303715884105728 := by
        have := sgn_scale n k; rw [hd] at this; simp only [sgn, if_true] at this
        unfold clamp; rw [if_pos (by omega)]
      rw [hr]; clear hr
      go_enter Try.func28, Try.ntmps28
      go_wp2_with (first | (go_at_call 63; refine (MA.out _).mono ?_; rintro e w1 ⟨rfl, hb1⟩; have g := Blk.keep hb1 (Blk.new (b := w.heap.size + 1) (T := 24) (by simp)); have gA := Blk.keep hb1 (Blk.old (Blk.new (b := w.heap.size) (T := 24) rfl) _); have gB := (((Below.refl w.heap.size w).alloc (Nat.le_refl _) _).alloc (by simp) _).trans (hb1.mono (by simp; omega))) | (go_at_call 65; (first | ((with_reducible refine (M1.out _).mono ?_); rintro e w1 ⟨rfl, rfl⟩) | ((with_reducible refine (M2.out _).mono ?_); rintro e w1 ⟨rfl, rfl⟩))) | (go_at_call 58; refine (negative_n _ _).mono ?_; rintro e w1 ⟨rfl, hb1⟩; replace g := Blk.keep hb1 g; replace gA := Blk.keep hb1 gA; replace gB := gB.trans (hb1.mono gB.size)) | (go_at_call 59; refine (bound_low _).mono ?_; rintro e w1 ⟨rfl, hb1⟩; replace g := Blk.keep hb1 g; replace gB := gB.trans (hb1.mono gB.size)))
      have hfin := (g.put (i := 0) (.int .i64 (-9223372036854775808))).put (i := 1) (.int .u64 0)
      exact bodyPost_ret (v := .agg #[.int .i64 (-9223372036854775808), .int .u64 0]) (by simp [results, Try.results28, go_sem, (show Blk _ _ #[.int .i64 (-9223372036854775808), .int .u64 0] _ from hfin).two]) rfl ⟨(ret_w (by decide) (by decide)), (gB.setCell (by simp) _).setCell (by simp) _⟩
    · have hd := decide_eq_false hneg
      have hr : clamp (n * k) = 170141183460469231731687303715884105727 := by
        have := sgn_scale n k; rw [hd] at this; simp only [sgn, Bool.false_eq_true, if_false] at this
        unfold clamp; rw [if_neg (by omega), if_pos (by omega)]
      rw [hr]; clear hr
      go_enter Try.func28, Try.ntmps28
      go_wp2_with (first | (go_at_call 63; refine (MA.out _).mono ?_; rintro e w1 ⟨rfl, hb1⟩; have g := Blk.keep hb1 (Blk.new (b := w.heap.size + 1) (T := 24) (by simp)); have gA := Blk.keep hb1 (Blk.old (Blk.new (b := w.heap.size) (T := 24) rfl) _); have gB := (((Below.refl w.heap.size w).alloc (Nat.le_refl _) _).alloc (by simp) _).trans (hb1.mono (by simp; omega))) | (go_at_call 65; (first | ((with_reducible refine (M1.out _).mono ?_); rintro e w1 ⟨rfl, rfl⟩) | ((with_reducible refine (M2.out _).mono ?_); rintro e w1 ⟨rfl, rfl⟩))) | (go_at_call 58; refine (negative_n _ _).mono ?_; rintro e w1 ⟨rfl, hb1⟩; replace g := Blk.keep hb1 g; replace gA := Blk.keep hb1 gA; replace gB := gB.trans (hb1.mono gB.size)) | (go_at_call 59; refine (bound_high _).mono ?_; rintro e w1 ⟨rfl, hb1⟩; replace g := Blk.keep hb1 g; replace gB := gB.trans (hb1.mono gB.size)))
      have hfin := (g.put (i := 0) (.int .i64 9223372036854775807)).put (i := 1) (.int .u64 18446744073709551615)
      exact bodyPost_ret (v := .agg #[.int .i64 9223372036854775807, .int .u64 18446744073709551615]) (by simp [results, Try.results28, go_sem, (show Blk _ _ #[.int .i64 9223372036854775807, .int .u64 18446744073709551615] _ from hfin).two]) rfl ⟨(ret_w (by decide) (by decide)), (gB.setCell (by simp) _).setCell (by simp) _⟩
end Go.Proofs.Ytbhgibpocbmipaa


/-
  Plain arithmetic of a long division by two digits of 32 bits. No program is named here.
-/
namespace Go.Proofs.Ytbhgibpocbmipaa.DivM

/-- One digit's setting: Y is N1, N0; U is below Y; Q is the digit. -/
structure Dig (U V Y N1 N0 Q : Int) : Prop where
  y : Y = N1 * 4294967296 + N0
  n1 : 2147483648 ≤ N1
  n1' : N1 ≤ 4294967295
  n0 : 0 ≤ N0
  n0' : N0 ≤ 4294967295
  u0 : 0 ≤ U
  u : U < Y
  v0 : 0 ≤ V
  v : V ≤ 4294967295
  q : Q = (U * 4294967296 + V) / Y

theorem Dig.ypos {U V Y N1 N0 Q : Int} (d : Dig U V Y N1 N0 Q) : 0 < Y := by have := d.y; have := d.n1; have := d.n0; omega
theorem Dig.low {U V Y N1 N0 Q : Int} (d : Dig U V Y N1 N0 Q) : Q * Y ≤ U * 4294967296 + V := by
  rw [d.q]; exact Int.ediv_mul_le _ (by have := d.ypos; omega)
theorem Dig.high {U V Y N1 N0 Q : Int} (d : Dig U V Y N1 N0 Q) : U * 4294967296 + V < Q * Y + Y := by
  have h := Int.lt_ediv_add_one_mul_self (U * 4294967296 + V) d.ypos
  rw [← d.q] at h; rw [Int.add_mul, Int.one_mul] at h; exact h
theorem Dig.q0 {U V Y N1 N0 Q : Int} (d : Dig U V Y N1 N0 Q) : 0 ≤ Q := by
  rw [d.q]; exact Int.ediv_nonneg (by have := d.u0; have := d.v0; omega) (by have := d.ypos; omega)
theorem Dig.qlt {U V Y N1 N0 Q : Int} (d : Dig U V Y N1 N0 Q) : Q ≤ 4294967295 := by
  have h : Q < 4294967296 := by
    rw [d.q]; apply Int.ediv_lt_of_lt_mul d.ypos
    have := d.u; have := d.v; have := d.v0; rw [Int.mul_comm]; omega
  omega
theorem Dig.mulY {U V Y N1 N0 Q : Int} (d : Dig U V Y N1 N0 Q) (q : Int) : q * Y = q * N1 * 4294967296 + q * N0 := by
  rw [d.y, Int.mul_add, Int.mul_assoc]
theorem Dig.dec {U V Y N1 N0 Q q r : Int} (d : Dig U V Y N1 N0 Q) (h : q * N1 + r = U) (hq : Q ≤ q) (hc : 4294967296 ≤ q ∨ 4294967296 * r + V < q * N0) : Q ≤ q - 1 := by
  rcases hc with hc | hc
  · have := d.qlt; omega
  · have h1 := d.mulY q
    have h2 := d.low
    have h3 : Q * Y < q * Y := by omega
    have : Q < q := Int.lt_of_mul_lt_mul_right h3 (by have := d.ypos; omega)
    omega
theorem Dig.stop {U V Y N1 N0 Q q r : Int} (d : Dig U V Y N1 N0 Q) (h : q * N1 + r = U) (hq : Q ≤ q) (hc : q * N0 ≤ 4294967296 * r + V) : q = Q := by
  have h1 := d.mulY q
  have h2 := d.high
  have h3 : q * Y < (Q + 1) * Y := by rw [Int.add_mul, Int.one_mul]; omega
  have : q < Q + 1 := Int.lt_of_mul_lt_mul_right h3 (by have := d.ypos; omega)
  omega
theorem Dig.brk {U V Y N1 N0 Q q r : Int} (d : Dig U V Y N1 N0 Q) (h : q * N1 + r = U) (hq : Q ≤ q) (hb : q ≤ 4294967296) (hr : 4294967296 ≤ r) : q = Q := by
  refine d.stop h hq ?_
  have h1 : q * N0 ≤ 4294967296 * N0 := Int.mul_le_mul_of_nonneg_right hb d.n0
  have := d.n0'; have := d.v0; omega
theorem Dig.start {U V Y N1 N0 Q : Int} (d : Dig U V Y N1 N0 Q) : U / N1 * N1 + U % N1 = U ∧ Q ≤ U / N1 ∧ U / N1 ≤ 4294967297 ∧ 0 ≤ U % N1 ∧ U % N1 ≤ 4294967295 ∧ 0 ≤ U / N1 := by
  have hp : 0 < N1 := by have := d.n1; omega
  have h1 := Int.emod_add_mul_ediv U N1
  have h2 := Int.emod_nonneg U (by omega : N1 ≠ 0)
  have h3 := Int.emod_lt_of_pos U hp
  have h4 := d.n1'
  have h5 : U / N1 * N1 + U % N1 = U := by rw [Int.mul_comm]; omega
  refine ⟨h5, ?_, ?_, h2, by omega, Int.ediv_nonneg d.u0 (by omega)⟩
  · apply Int.le_ediv_of_mul_le hp
    have ha := d.low; have hb := d.mulY Q
    have hc : 0 ≤ Q * N0 := Int.mul_nonneg d.q0 d.n0
    have := d.v; omega
  · have : U / N1 < 4294967298 := by
      apply Int.ediv_lt_of_lt_mul hp
      have := d.u; have := d.y; have := d.n0'; have := d.n1; omega
    omega
/-- What is left behind the digit. -/
theorem Dig.rest {U V Y N1 N0 Q : Int} (d : Dig U V Y N1 N0 Q) : 0 ≤ U * 4294967296 + V - Q * Y ∧ U * 4294967296 + V - Q * Y < Y := by
  have := d.low; have := d.high; omega

/-- Both digits together. -/
theorem two_digits {U V1 V0 Y N1 N0 Q1 Q0 U2 : Int} (d1 : Dig U V1 Y N1 N0 Q1) (hU : U2 = U * 4294967296 + V1 - Q1 * Y) (d2 : Dig U2 V0 Y N1 N0 Q0) :
    (U * 18446744073709551616 + (V1 * 4294967296 + V0)) / Y = Q1 * 4294967296 + Q0 ∧ (U * 18446744073709551616 + (V1 * 4294967296 + V0)) % Y = U2 * 4294967296 + V0 - Q0 * Y := by
  have hr := d2.rest
  have e : U * 18446744073709551616 + (V1 * 4294967296 + V0) = (U2 * 4294967296 + V0 - Q0 * Y) + Y * (Q1 * 4294967296 + Q0) := by
    rw [Int.mul_add, ← Int.mul_assoc, Int.mul_comm Y Q1, Int.mul_comm Y Q0, hU]; omega
  rw [e]
  have hp := d1.ypos
  constructor
  · rw [Int.add_mul_ediv_left _ _ (by omega : Y ≠ 0), Int.ediv_eq_zero_of_lt hr.1 hr.2]; omega
  · rw [Int.add_mul_emod_self_left]; exact Int.emod_eq_of_lt hr.1 hr.2
end Go.Proofs.Ytbhgibpocbmipaa.DivM


/-
  The contract of bits.Div64: the walk, over the numbers that its own text makes.
-/
namespace Go.Proofs.Ytbhgibpocbmipaa
open Go.RowKit DivM

/-- At the head of either loop: the digit is not above q, and q times N1, with r, is U. -/
def DigAt (U N1 Q : Int) (A R : Value) : Prop := ∃ q r : Int, (q * N1 + r = U ∧ Q ≤ q ∧ q ≤ 4294967297 ∧ 0 ≤ r ∧ r ≤ 4294967295) ∧ A = .int .u64 q ∧ R = .int .u64 r

theorem prod_bd {q N0 : Int} (q0 : 0 ≤ q) (q1 : q ≤ 4294967295) (n0 : 0 ≤ N0) (n1 : N0 ≤ 4294967295) : 0 ≤ q * N0 ∧ q * N0 ≤ 18446744065119617025 :=
  ⟨Int.mul_nonneg q0 n0, Int.mul_le_mul q1 n1 n0 (by omega)⟩

set_option maxRecDepth 100000 in
set_option maxHeartbeats 8000000 in
theorem div64_walk (h l y s S T Y N1 N0 HS LT U V V1 V0 Q1 U2 Q0 : Int) (w : World)
    (h0 : 0 < h) (hy : h < y) (y1 : y ≤ 18446744073709551615) (s0 : 0 ≤ s) (s1 : s ≤ 63)
    (hs : 64 - (Lib.bitLen y.toNat : Int) = s) (eS : (2 : Int) ^ s.toNat = S) (eT : (2 : Int) ^ (64 - s).toNat = T)
    (eY : IntKind.u64.wrap (y * S) = Y) (eN1 : Y / 4294967296 = N1) (eN0 : bits .and .u64 Y 4294967295 = N0)
    (eH : IntKind.u64.wrap (h * S) = HS) (eL : l / T = LT) (eU : bits .or .u64 HS LT = U)
    (eV : IntKind.u64.wrap (l * S) = V) (eV1 : V / 4294967296 = V1) (eV0 : bits .and .u64 V 4294967295 = V0)
    (d1 : Dig U V1 Y N1 N0 Q1) (hU2 : U2 = U * 4294967296 + V1 - Q1 * Y) (d2 : Dig U2 V0 Y N1 N0 Q0) (yy : Y ≤ 18446744073709551615) :
    Calls Try.prog 67 #[.int .u64 h, .int .u64 l, .int .u64 y] w fun e w' =>
      e = .returned (.tuple #[.int .u64 (Q1 * 4294967296 + Q0), .int .u64 ((U2 * 4294967296 + V0 - Q0 * Y) / S)]) ∧ w' = w := by
  have e1 : (y == 0) = false := by rw [beq_eq_false_iff_ne]; omega
  have e2 : (h == 0) = false := by rw [beq_eq_false_iff_ne]; omega
  have e3 : ¬ y ≤ h := by omega
  have lz := fun w => Try.bits_LeadingZeros64 y w (by omega) y1
  rw [hs] at lz
  have LZ := Lib.hid lz; clear lz hs
  obtain ⟨st1, st2, st3, st4, st5, st6⟩ := d1.start
  have n1a := d1.n1; have n1b := d1.n1'; have n0a := d1.n0; have n0b := d1.n0'; have ua := d1.u0; have ub : U ≤ 18446744073709551615 := by have := d1.u; omega
  have u2a := d2.u0; have u2b : U2 ≤ 18446744073709551615 := by have := d2.u; omega
  have v1a := d1.v0; have v1b := d1.v; have v0a := d2.v0; have v0b := d2.v
  have qa := d1.q0; have qb := d1.qlt; have q0a := d2.q0; have q0b := d2.qlt
  have yp := d1.ypos
  have nz : (N1 == 0) = false := by rw [beq_eq_false_iff_ne]; omega
  have nz2 : ¬ N1 = 0 := by omega
  obtain ⟨tt1, tt2, tt3, tt4, tt5, tt6⟩ := d2.start
  have D1 := Lib.hid d1; have D2 := Lib.hid d2; have HU2 := Lib.hid hU2
  have ST1 := Lib.hid st1; have TT1 := Lib.hid tt1
  have er1 : U - U / N1 * N1 = U % N1 := by omega
  have er2 : U2 - U2 / N1 * N1 = U2 % N1 := by omega
  have bq1 : 0 ≤ U / N1 * N1 := Int.mul_nonneg st6 (by omega)
  have bq2 : U / N1 * N1 ≤ 18446744073709551615 := by omega
  have bq3 : 0 ≤ U2 / N1 * N1 := Int.mul_nonneg tt6 (by omega)
  have bq4 : U2 / N1 * N1 ≤ 18446744073709551615 := by omega
  clear d1 d2 hU2 st1 tt1
  generalize hr1 : U % N1 = ri at *
  generalize hr2 : U2 % N1 = rj at *
  generalize hm1 : U / N1 * N1 = QN at *
  generalize hm2 : U2 / N1 * N1 = QM at *
  obtain ⟨W1, w1e⟩ : ∃ W1, IntKind.u64.wrap (U * 4294967296) = W1 := ⟨_, rfl⟩
  obtain ⟨W2, w2e⟩ : ∃ W2, IntKind.u64.wrap (Q1 * Y) = W2 := ⟨_, rfl⟩
  obtain ⟨W3, w3e⟩ : ∃ W3, IntKind.u64.wrap (W1 + V1) = W3 := ⟨_, rfl⟩
  obtain ⟨X1, x1e⟩ : ∃ X1, IntKind.u64.wrap (U2 * 4294967296) = X1 := ⟨_, rfl⟩
  obtain ⟨X2, x2e⟩ : ∃ X2, IntKind.u64.wrap (Q0 * Y) = X2 := ⟨_, rfl⟩
  obtain ⟨X3, x3e⟩ : ∃ X3, IntKind.u64.wrap (X1 + V0) = X3 := ⟨_, rfl⟩
  obtain ⟨R, rE⟩ : ∃ R, U2 * 4294967296 + V0 - Q0 * Y = R := ⟨_, rfl⟩
  have hrest := D2.out.rest
  have w4e : IntKind.u64.wrap (W3 - W2) = U2 := by simp only [IntKind.wrap_u64] at *; have := HU2.out; omega
  have x4e : IntKind.u64.wrap (X3 - X2) = R := by simp only [IntKind.wrap_u64] at *; omega
  have rb : 0 ≤ R := by omega
  have rb2 : R ≤ 18446744073709551615 := by omega
  have RE := Lib.hid rE; clear rE hrest
  go_enter Try.func67, Try.ntmps67
  go_wp2_with (go_at_call 76; refine (LZ.out _).mono ?_; rintro e w1 ⟨rfl, hw1⟩; rw [hw1]; clear hw1)
  go_loop [15, 16] (fun A R => DigAt U N1 Q1 A R) (fun A _ => (intOf A).toNat)
  case atStart => exact ⟨U / N1, ri, ⟨by rw [hm1]; exact ST1.out, st2, st3, st4, st5⟩, rfl, rfl⟩
  case round =>
    obtain ⟨q, r, ⟨i1, i2, i3, i4, i5⟩, rfl, rfl⟩ := hrel
    have I1 := Lib.hid i1; clear i1
    by_cases hbig : 4294967296 ≤ q
    · have hdec := D1.out.dec I1.out i2 (Or.inl hbig)
      have I2 : (q - 1) * N1 + (r + N1) = U := by rw [Int.sub_mul]; have := I1.out; omega
      by_cases hr : 4294967296 ≤ r + N1
      · have hQ := D1.out.brk I2 hdec (by omega) hr
        clear I2
        go_wp2
        go_loop [18, 16] (fun A R => DigAt U2 N1 Q0 A R) (fun A _ => (intOf A).toNat)
        case atStart => exact ⟨U2 / N1, rj, ⟨by rw [hm2]; exact TT1.out, tt2, tt3, tt4, tt5⟩, rfl, rfl⟩
        case round =>
          obtain ⟨q, r, ⟨i1, i2, i3, i4, i5⟩, rfl, rfl⟩ := hrel
          have I1 := Lib.hid i1; clear i1
          by_cases hbig : 4294967296 ≤ q
          · have hdec := D2.out.dec I1.out i2 (Or.inl hbig)
            have I2 : (q - 1) * N1 + (r + N1) = U2 := by rw [Int.sub_mul]; have := I1.out; omega
            by_cases hr : 4294967296 ≤ r + N1
            · have hQ := D2.out.brk I2 hdec (by omega) hr
              clear I2
              go_wp2
              go_ret2
              exact ⟨by rw [RE.out]; rfl, rfl⟩
            · skip
              have IH := Lib.hid I2; clear I2
              go_wp2
              go_round
              case rel => exact ⟨q - 1, r + N1, ⟨IH.out, hdec, by omega, by omega, by omega⟩, rfl, rfl⟩
              case measure => simp [intOf]; omega
          · have hp := prod_bd (by omega : 0 ≤ q) (by omega) n0a n0b
            obtain ⟨P, hP⟩ : ∃ P, q * N0 = P := ⟨_, rfl⟩
            rw [hP] at hp
            by_cases hc : 4294967296 * r + V0 < P
            · have hdec := D2.out.dec I1.out i2 (Or.inr (by rw [hP]; exact hc))
              have I2 : (q - 1) * N1 + (r + N1) = U2 := by rw [Int.sub_mul]; have := I1.out; omega
              by_cases hr : 4294967296 ≤ r + N1
              · have hQ := D2.out.brk I2 hdec (by omega) hr
                clear I2
                go_wp2
                go_ret2
                exact ⟨by rw [RE.out]; rfl, rfl⟩
              · skip
                have IH := Lib.hid I2; clear I2
                go_wp2
                go_round
                case rel => exact ⟨q - 1, r + N1, ⟨IH.out, hdec, by omega, by omega, by omega⟩, rfl, rfl⟩
                case measure => simp [intOf]; omega
            · obtain rfl : Q0 = q := (D2.out.stop I1.out i2 (by omega)).symm
              go_wp2
              go_ret2
              exact ⟨by rw [RE.out]; rfl, rfl⟩
      · skip
        have IH := Lib.hid I2; clear I2
        go_wp2
        go_round
        case rel => exact ⟨q - 1, r + N1, ⟨IH.out, hdec, by omega, by omega, by omega⟩, rfl, rfl⟩
        case measure => simp [intOf]; omega
    · have hp := prod_bd (by omega : 0 ≤ q) (by omega) n0a n0b
      obtain ⟨P, hP⟩ : ∃ P, q * N0 = P := ⟨_, rfl⟩
      rw [hP] at hp
      by_cases hc : 4294967296 * r + V1 < P
      · have hdec := D1.out.dec I1.out i2 (Or.inr (by rw [hP]; exact hc))
        have I2 : (q - 1) * N1 + (r + N1) = U := by rw [Int.sub_mul]; have := I1.out; omega
        by_cases hr : 4294967296 ≤ r + N1
        · have hQ := D1.out.brk I2 hdec (by omega) hr
          clear I2
          go_wp2
          go_loop [18, 16] (fun A R => DigAt U2 N1 Q0 A R) (fun A _ => (intOf A).toNat)
          case atStart => exact ⟨U2 / N1, rj, ⟨by rw [hm2]; exact TT1.out, tt2, tt3, tt4, tt5⟩, rfl, rfl⟩
          case round =>
            obtain ⟨q, r, ⟨i1, i2, i3, i4, i5⟩, rfl, rfl⟩ := hrel
            have I1 := Lib.hid i1; clear i1
            by_cases hbig : 4294967296 ≤ q
            · have hdec := D2.out.dec I1.out i2 (Or.inl hbig)
              have I2 : (q - 1) * N1 + (r + N1) = U2 := by rw [Int.sub_mul]; have := I1.out; omega
              by_cases hr : 4294967296 ≤ r + N1
              · have hQ := D2.out.brk I2 hdec (by omega) hr
                clear I2
                go_wp2
                go_ret2
                exact ⟨by rw [RE.out]; rfl, rfl⟩
              · skip
                have IH := Lib.hid I2; clear I2
                go_wp2
                go_round
                case rel => exact ⟨q - 1, r + N1, ⟨IH.out, hdec, by omega, by omega, by omega⟩, rfl, rfl⟩
                case measure => simp [intOf]; omega
            · have hp := prod_bd (by omega : 0 ≤ q) (by omega) n0a n0b
              obtain ⟨P, hP⟩ : ∃ P, q * N0 = P := ⟨_, rfl⟩
              rw [hP] at hp
              by_cases hc : 4294967296 * r + V0 < P
              · have hdec := D2.out.dec I1.out i2 (Or.inr (by rw [hP]; exact hc))
                have I2 : (q - 1) * N1 + (r + N1) = U2 := by rw [Int.sub_mul]; have := I1.out; omega
                by_cases hr : 4294967296 ≤ r + N1
                · have hQ := D2.out.brk I2 hdec (by omega) hr
                  clear I2
                  go_wp2
                  go_ret2
                  exact ⟨by rw [RE.out]; rfl, rfl⟩
                · skip
                  have IH := Lib.hid I2; clear I2
                  go_wp2
                  go_round
                  case rel => exact ⟨q - 1, r + N1, ⟨IH.out, hdec, by omega, by omega, by omega⟩, rfl, rfl⟩
                  case measure => simp [intOf]; omega
              · obtain rfl : Q0 = q := (D2.out.stop I1.out i2 (by omega)).symm
                go_wp2
                go_ret2
                exact ⟨by rw [RE.out]; rfl, rfl⟩
        · skip
          have IH := Lib.hid I2; clear I2
          go_wp2
          go_round
          case rel => exact ⟨q - 1, r + N1, ⟨IH.out, hdec, by omega, by omega, by omega⟩, rfl, rfl⟩
          case measure => simp [intOf]; omega
      · obtain rfl : Q1 = q := (D1.out.stop I1.out i2 (by omega)).symm
        go_wp2
        go_loop [18, 16] (fun A R => DigAt U2 N1 Q0 A R) (fun A _ => (intOf A).toNat)
        case atStart => exact ⟨U2 / N1, rj, ⟨by rw [hm2]; exact TT1.out, tt2, tt3, tt4, tt5⟩, rfl, rfl⟩
        case round =>
          obtain ⟨q, r, ⟨i1, i2, i3, i4, i5⟩, rfl, rfl⟩ := hrel
          have I1 := Lib.hid i1; clear i1
          by_cases hbig : 4294967296 ≤ q
          · have hdec := D2.out.dec I1.out i2 (Or.inl hbig)
            have I2 : (q - 1) * N1 + (r + N1) = U2 := by rw [Int.sub_mul]; have := I1.out; omega
            by_cases hr : 4294967296 ≤ r + N1
            · have hQ := D2.out.brk I2 hdec (by omega) hr
              clear I2
              go_wp2
              go_ret2
              exact ⟨by rw [RE.out]; rfl, rfl⟩
            · skip
              have IH := Lib.hid I2; clear I2
              go_wp2
              go_round
              case rel => exact ⟨q - 1, r + N1, ⟨IH.out, hdec, by omega, by omega, by omega⟩, rfl, rfl⟩
              case measure => simp [intOf]; omega
          · have hp := prod_bd (by omega : 0 ≤ q) (by omega) n0a n0b
            obtain ⟨P, hP⟩ : ∃ P, q * N0 = P := ⟨_, rfl⟩
            rw [hP] at hp
            by_cases hc : 4294967296 * r + V0 < P
            · have hdec := D2.out.dec I1.out i2 (Or.inr (by rw [hP]; exact hc))
              have I2 : (q - 1) * N1 + (r + N1) = U2 := by rw [Int.sub_mul]; have := I1.out; omega
              by_cases hr : 4294967296 ≤ r + N1
              · have hQ := D2.out.brk I2 hdec (by omega) hr
                clear I2
                go_wp2
                go_ret2
                exact ⟨by rw [RE.out]; rfl, rfl⟩
              · skip
                have IH := Lib.hid I2; clear I2
                go_wp2
                go_round
                case rel => exact ⟨q - 1, r + N1, ⟨IH.out, hdec, by omega, by omega, by omega⟩, rfl, rfl⟩
                case measure => simp [intOf]; omega
            · obtain rfl : Q0 = q := (D2.out.stop I1.out i2 (by omega)).symm
              go_wp2
              go_ret2
              exact ⟨by rw [RE.out]; rfl, rfl⟩
end Go.Proofs.Ytbhgibpocbmipaa


/-
  The contract of bits.Div64 by numbers, for a high part that is below the divisor.
-/
namespace Go.Proofs.Ytbhgibpocbmipaa
open Go.RowKit DivM

theorem bitLen_bd : ∀ (f x : Nat), x ≠ 0 → x < 2 ^ f → f ≤ 64 → 2 ^ (Lib.bitLen x) ≤ 2 * x ∧ x < 2 ^ (Lib.bitLen x) ∧ Lib.bitLen x ≤ f ∧ 1 ≤ Lib.bitLen x := by
  intro f
  induction f with
  | zero => intro x h0 h1 _; simp at h1; omega
  | succ f ih =>
    intro x h0 h1 hf
    have h64 : x < 2 ^ 64 := Nat.lt_of_lt_of_le h1 (Nat.pow_le_pow_right (by omega) hf)
    have hh := Lib.bitLen_half x h0 h64
    by_cases hx : x / 2 = 0
    · have : x = 1 := by omega
      subst this
      have e : Lib.bitLen 1 = 1 := rfl
      rw [e]; omega
    · obtain ⟨a, b, c, d⟩ := ih (x / 2) hx (by rw [Nat.pow_succ] at h1; omega) (by omega)
      rw [hh, Nat.pow_add]
      omega

theorem and_mask {a : Int} (a0 : 0 ≤ a) (a1 : a ≤ 18446744073709551615) : bits .and .u64 a 4294967295 = a % 4294967296 := by
  obtain ⟨x, rfl⟩ := Int.eq_ofNat_of_zero_le a0
  have h := bits_and_u64_nat x 4294967295 (by omega) (by omega)
  have e : x &&& 4294967295 = x % 4294967296 := Nat.and_two_pow_sub_one_eq_mod x 32
  rw [e] at h
  exact h

/-- What the shifts come to. -/
structure Sh (h l y S T : Int) : Prop where
  s1 : 1 ≤ S
  t1 : 1 ≤ T
  st : T * S = 18446744073709551616
  y0 : 9223372036854775808 ≤ y * S
  y1 : y * S ≤ 18446744073709551615
  h0 : 0 ≤ h
  hy : h < y
  l0 : 0 ≤ l
  l1 : l ≤ 18446744073709551615
theorem Sh.hS {h l y S T : Int} (k : Sh h l y S T) : 0 ≤ h * S ∧ h * S ≤ y * S - S := by
  have h1 := Int.mul_le_mul_of_nonneg_right (show h ≤ y - 1 by have := k.hy; omega) (show 0 ≤ S by have := k.s1; omega)
  rw [Int.sub_mul, Int.one_mul] at h1
  exact ⟨Int.mul_nonneg k.h0 (by have := k.s1; omega), h1⟩
theorem Sh.lT {h l y S T : Int} (k : Sh h l y S T) : 0 ≤ l / T ∧ l / T < S := by
  refine ⟨Int.ediv_nonneg k.l0 (by have := k.t1; omega), ?_⟩
  apply Int.ediv_lt_of_lt_mul (by have := k.t1; omega)
  have := k.st; have := k.l1; rw [Int.mul_comm]; omega
theorem Sh.lS {h l y S T : Int} (k : Sh h l y S T) : l * S = l / T * 18446744073709551616 + l % T * S ∧ 0 ≤ l % T * S ∧ l % T * S ≤ 18446744073709551615 := by
  have e := Int.emod_add_mul_ediv l T
  have e2 : l * S = (l % T + T * (l / T)) * S := by rw [e]
  have hm := Int.emod_nonneg l (show T ≠ 0 by have := k.t1; omega)
  have hl := Int.emod_lt_of_pos l (show 0 < T by have := k.t1; omega)
  have hs := k.s1
  have h1 := Int.mul_le_mul_of_nonneg_right (show l % T ≤ T - 1 by omega) (show 0 ≤ S by omega)
  rw [Int.sub_mul, Int.one_mul, k.st] at h1
  refine ⟨?_, Int.mul_nonneg hm (by omega), by omega⟩
  rw [e2, Int.add_mul, Int.mul_right_comm, k.st, Int.mul_comm 18446744073709551616]; omega
/-- The dividend, shifted. -/
theorem Sh.num {h l y S T : Int} (k : Sh h l y S T) : (h * 18446744073709551616 + l) * S = (h * S + l / T) * 18446744073709551616 + l % T * S := by
  rw [Int.add_mul, Int.mul_right_comm, k.lS.1, Int.add_mul]; omega
theorem Sh.uY {h l y S T : Int} (k : Sh h l y S T) : 0 ≤ h * S + l / T ∧ h * S + l / T < y * S := by
  have := k.hS; have := k.lT; omega

theorem emod_mul_right (a b : Int) {S : Int} (h : 0 < S) : (a * S) % (b * S) = a % b * S := by
  rw [Int.mul_comm a, Int.mul_comm b, Int.mul_emod_mul_of_pos _ _ h, Int.mul_comm]

theorem div64_n {h l y : Int} (h0 : 0 ≤ h) (hy : h < y) (y1 : y ≤ 18446744073709551615) (l0 : 0 ≤ l) (l1 : l ≤ 18446744073709551615) (w : World) (hpos : 0 < h) :
    Calls Try.prog 67 #[.int .u64 h, .int .u64 l, .int .u64 y] w fun e w' =>
      e = .returned (.tuple #[.int .u64 ((h * 18446744073709551616 + l) / y), .int .u64 ((h * 18446744073709551616 + l) % y)]) ∧ w' = w := by
  obtain ⟨yn, rfl⟩ := Int.eq_ofNat_of_zero_le (show 0 ≤ y by omega)
  obtain ⟨b1, b2, b3, b4⟩ := bitLen_bd 64 yn (by omega) (by omega) (by omega)
  generalize hbl : Lib.bitLen yn = n at *
  have hS1 : 1 ≤ 2 ^ (64 - n) := Nat.one_le_two_pow
  have hT1 : 1 ≤ 2 ^ n := Nat.one_le_two_pow
  have hST : 2 ^ n * 2 ^ (64 - n) = 18446744073709551616 := by rw [← Nat.pow_add, show n + (64 - n) = 64 by omega]
  have hy0 : 2 ^ n * 2 ^ (64 - n) ≤ 2 * yn * 2 ^ (64 - n) := Nat.mul_le_mul_right _ b1
  have hy2 : (yn + 1) * 2 ^ (64 - n) ≤ 2 ^ n * 2 ^ (64 - n) := Nat.mul_le_mul_right _ b2
  rw [hST] at hy0 hy2
  rw [Nat.add_mul, Nat.one_mul] at hy2
  rw [Nat.mul_assoc] at hy0
  have k : Sh h l yn (((2 ^ (64 - n) : Nat)) : Int) (((2 ^ n : Nat)) : Int) :=
    ⟨by omega, by omega, by rw [← Int.natCast_mul, hST]; rfl, by rw [← Int.natCast_mul]; omega, by rw [← Int.natCast_mul]; omega, h0, hy, l0, l1⟩
  have es : (64 - (n : Int)).toNat = 64 - n := by omega
  have es2 : (64 - (64 - (n : Int))).toNat = n := by omega
  have eS : (2 : Int) ^ (64 - (n : Int)).toNat = ((2 ^ (64 - n) : Nat) : Int) := by rw [es, Int.natCast_pow]; rfl
  have eT : (2 : Int) ^ (64 - (64 - (n : Int))).toNat = ((2 ^ n : Nat) : Int) := by rw [es2, Int.natCast_pow]; rfl
  have hk : 64 - n ≤ 63 := by omega
  generalize hSd : (((2 ^ (64 - n) : Nat)) : Int) = S at *
  generalize hTd : (((2 ^ n : Nat)) : Int) = T at *
  have hHS := k.hS; have hLT := k.lT; have hLS := k.lS; have hu := k.uY
  have ky0 := k.y0; have ky1 := k.y1; have ks := k.s1
  have hor : bits .or .u64 (h * S) (l / T) = h * S + l / T :=
    or_u64 (64 - n) hSd.symm (Int.mul_emod_left h S) hHS.1 (by omega) hLT.1 hLT.2 (by omega)
  have hyp : 0 < (yn : Int) * S := by omega
  have d1 : Dig (h * S + l / T) (l % T * S / 4294967296) (yn * S) (yn * S / 4294967296) (yn * S % 4294967296) _ :=
    ⟨by omega, by omega, by omega, by omega, by omega, hu.1, hu.2, by omega, by omega, rfl⟩
  have d2 : Dig _ (l % T * S % 4294967296) (yn * S) (yn * S / 4294967296) (yn * S % 4294967296) _ :=
    ⟨by omega, by omega, by omega, by omega, by omega, d1.rest.1, d1.rest.2, by omega, by omega, rfl⟩
  have h2 := two_digits d1 rfl d2
  have hnum := k.num
  rw [show (h * S + l / T) * 18446744073709551616 + (l % T * S / 4294967296 * 4294967296 + l % T * S % 4294967296) = (h * 18446744073709551616 + l) * S by rw [hnum]; omega] at h2
  rw [Int.mul_ediv_mul_of_pos_left _ _ (by omega : 0 < S), emod_mul_right _ _ (by omega : 0 < S)] at h2
  have hw := div64_walk h l yn (64 - n) S T (yn * S) (yn * S / 4294967296) (yn * S % 4294967296) (h * S) (l / T) (h * S + l / T) (l % T * S) (l % T * S / 4294967296) (l % T * S % 4294967296) _ _ _ w
    hpos hy y1 (by omega) (by omega) (by rw [Int.toNat_natCast, hbl]) eS eT (by rw [IntKind.wrap_u64]; omega) rfl (and_mask (by omega) (by omega)) (by rw [IntKind.wrap_u64]; omega) rfl hor
    (by rw [IntKind.wrap_u64]; omega) rfl (and_mask (by omega) (by omega)) d1 rfl d2 (by omega)
  rw [← h2.1, ← h2.2, Int.mul_ediv_cancel _ (by omega : S ≠ 0)] at hw
  exact hw

set_option maxHeartbeats 1000000 in
theorem div64_0 {l y : Int} (hy : 0 < y) (y1 : y ≤ 18446744073709551615) (l0 : 0 ≤ l) (l1 : l ≤ 18446744073709551615) (w : World) :
    Calls Try.prog 67 #[.int .u64 0, .int .u64 l, .int .u64 y] w fun e w' =>
      e = .returned (.tuple #[.int .u64 (l / y), .int .u64 (l % y)]) ∧ w' = w.drew := by
  have e1 : (y == 0) = false := by rw [beq_eq_false_iff_ne]; omega
  have e2 : ¬ y ≤ 0 := by omega
  have e3 : ¬ y = 0 := by omega
  have q0 : 0 ≤ l / y := Int.ediv_nonneg l0 (by omega)
  have q1 : l / y ≤ 18446744073709551615 := Int.le_trans (Int.ediv_le_self _ l0) l1
  have t1 : l.tdiv y = l / y := Int.tdiv_eq_ediv_of_nonneg l0
  have t2 : l.tmod y = l % y := Int.tmod_eq_emod_of_nonneg l0
  have t3 : IntKind.u64.wrap (l / y) = l / y := by rw [IntKind.wrap_u64]; omega
  go_enter Try.func67, Try.ntmps67
  go_wp2
  refine wp_region_held_drew (S := (fun _ => True)) (by kernel_rfl) ?_ (fun hHeld => ?_)
  · trivial
  refine H.take 0 (v := ?_) rfl (by kernel_rfl) (fun _ _ _ h => h) (by rfl) ?_ (by assumption) ?_
  rotate_left
  · (intro wz hSw; (try dsimp only at hSw); go_simp <;> with_reducible rfl)
  try simp only [Act.put, List.setIfInBounds_toArray, List.set_cons_zero, List.set_cons_succ]
  refine H.take 1 (v := ?_) rfl (by kernel_rfl) (fun _ _ _ h => h) (by rfl) ?_ (by assumption) ?_
  rotate_left
  · (intro wz hSw; (try dsimp only at hSw); go_simp <;> with_reducible rfl)
  try simp only [Act.put, List.setIfInBounds_toArray, List.set_cons_zero, List.set_cons_succ]
  refine H.take 2 (v := ?_) rfl (by kernel_rfl) (fun _ _ _ h => h) (by rfl) ?_ (by assumption) ?_
  rotate_left
  · (intro wz hSw; (try dsimp only at hSw); go_simp <;> with_reducible rfl)
  try simp only [Act.put, List.setIfInBounds_toArray, List.set_cons_zero, List.set_cons_succ]
  refine H.take 3 (v := ?_) rfl (by kernel_rfl) (fun _ _ _ h => h) (by rfl) ?_ (by assumption) ?_
  rotate_left
  · (intro wz hSw; (try dsimp only at hSw); go_simp <;> with_reducible rfl)
  try simp only [Act.put, List.setIfInBounds_toArray, List.set_cons_zero, List.set_cons_succ]
  refine H.take 4 (v := ?_) rfl (by kernel_rfl) (fun _ _ _ h => h) (by rfl) ?_ (by assumption) ?_
  rotate_left
  · (intro wz hSw; (try dsimp only at hSw); go_simp <;> with_reducible rfl)
  try simp only [Act.put, List.setIfInBounds_toArray, List.set_cons_zero, List.set_cons_succ]
  refine H.take 5 (v := ?_) rfl (by kernel_rfl) (fun _ _ _ h => h) (by rfl) ?_ (by assumption) ?_
  rotate_left
  · (intro wz hSw; (try dsimp only at hSw); go_simp <;> with_reducible rfl)
  try simp only [Act.put, List.setIfInBounds_toArray, List.set_cons_zero, List.set_cons_succ]
  refine H.take 6 (v := ?_) rfl (by kernel_rfl) (fun _ _ _ h => h) (by rfl) ?_ (by assumption) ?_
  rotate_left
  · (intro wz hSw; (try dsimp only at hSw); go_simp <;> with_reducible rfl)
  try simp only [Act.put, List.setIfInBounds_toArray, List.set_cons_zero, List.set_cons_succ]
  refine H.take 7 (v := ?_) rfl (by kernel_rfl) (fun _ _ _ h => h) (by rfl) ?_ (by assumption) ?_
  rotate_left
  · (intro wz hSw; (try dsimp only at hSw); go_simp <;> with_reducible rfl)
  try simp only [Act.put, List.setIfInBounds_toArray, List.set_cons_zero, List.set_cons_succ]
  refine H.done (by kernel_rfl) ?_ _
  go_wp2
  go_ret2
  exact ⟨rfl, rfl⟩

/-- Whatever the high part is, below the divisor. -/
theorem div64_any {h l y : Int} (h0 : 0 ≤ h) (hy : h < y) (y1 : y ≤ 18446744073709551615) (l0 : 0 ≤ l) (l1 : l ≤ 18446744073709551615) (w : World) :
    Calls Try.prog 67 #[.int .u64 h, .int .u64 l, .int .u64 y] w fun e w' =>
      e = .returned (.tuple #[.int .u64 ((h * 18446744073709551616 + l) / y), .int .u64 ((h * 18446744073709551616 + l) % y)]) ∧ Below w.heap.size w w' := by
  by_cases hp : 0 < h
  · refine (div64_n h0 hy y1 l0 l1 w hp).mono ?_
    rintro e w' ⟨he, rfl⟩; exact ⟨he, Below.refl _ _⟩
  · obtain rfl : 0 = h := by omega
    refine (div64_0 (by omega) y1 l0 l1 w).mono ?_
    rintro e w' ⟨rfl, rfl⟩; exact ⟨by rw [Int.zero_mul, Int.zero_add], (Below.refl _ _).drew⟩
end Go.Proofs.Ytbhgibpocbmipaa
