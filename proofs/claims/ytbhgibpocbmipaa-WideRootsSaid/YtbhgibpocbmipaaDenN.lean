/-
  Code and calls, read to a depth; the theorem: what is read of a call, the call does.
-/
import Derived.Test.YtbhgibpocbmipaaDenM
namespace Go.Den
open Go.RowKit
noncomputable section

def cok : Code → Bool
  | .region _ ops draw => !draw || regOk ops.toList
  | .seq a b => cok a && cok b
  | .cond _ a b => cok a && cok b
  | .block _ c => cok c
  | .loop c => cok c
  | .scope c => cok c
  | _ => true

section
variable {P : Program} (E : Env P) (e : Ev)
def getF (t : FT) (i : Nat) : Value := evF t (.tmp i)
theorem getF_eq (t : FT) (i : Nat) : getF t i = t.arr.getD i undef := by
  unfold getF; rw [evF_eq]; rfl
def resA (P : Program) (g : AHeap) (t : FT) (h : AHeap) : ResultVar → Option Value
  | .tmp i => some (getF t i)
  | .cell a ty => match getF t a with
    | .pointer (some x) => aload P g h ty x
    | _ => none
def resL (P : Program) (g : AHeap) (t : FT) (h : AHeap) : List ResultVar → Option (List Value)
  | [] => some []
  | x :: r => match resA P g t h x, resL P g t h r with
    | some v, some vs => some (v :: vs)
    | _, _ => none
def resultsA (P : Program) (g : AHeap) (fn : Func) (t : FT) (h : AHeap) : Option Value :=
  match resL P g t h fn.results.toList with
  | some [v] => some v
  | some vs => some (.tuple vs.toArray)
  | none => none
def regionC (g : AHeap) (ops : List Oper) (draw : Bool) (st : St) : Tree (Exit × St) :=
  (match draw with
    | true => drawT E e g ops st.tmps st.h st.nx
    | false => seqT E e g ops ops st.tmps st.h st.nx).bind fun s => .leaf (.normal, s)
def seqC (g : AHeap) (b : Code) (r : Exit × St) : Tree (Exit × St) :=
  match r.1 with
  | .normal => e.code g b r.2
  | _ => .leaf r
def condC (g : AHeap) (x : Operand) (a b : Code) (st : St) : Tree (Exit × St) :=
  bif opndOk x then
    match evF st.tmps x with
    | .bool t => brF E.frc t (e.code g a st) (e.code g b st)
    | _ => .fail
  else .fail
def blockC (id : Nat) (r : Exit × St) : Tree (Exit × St) :=
  match r.1 with
  | .exit id' => bif Nat.beq id' id then .leaf (.normal, r.2) else .leaf r
  | _ => .leaf r
def scopeC (r : Exit × St) : Tree (Exit × St) :=
  match r.1 with
  | .goto _ => .fail
  | _ => .leaf r
/-- What a piece of code does, told of its text alone. -/
structure HdC where
  run : Ev → AHeap → St → Tree (Exit × St)
def cdl (c : Code) : HdC :=
  match c with
  | .skip => ⟨fun _ _ st => .leaf (.normal, st)⟩
  | .label _ => ⟨fun _ _ st => .leaf (.normal, st)⟩
  | .region _ ops draw => ⟨fun e g st => regionC E e g ops.toList draw st⟩
  | .seq a b => ⟨fun e g st => (e.code g a st).bind (seqC e g b)⟩
  | .cond x a b => ⟨fun e g st => condC E e g x a b st⟩
  | .block id c => ⟨fun e g st => (e.code g c st).bind (blockC id)⟩
  | .loop c => ⟨fun e g st => (e.code g c st).bind (seqC e g (.loop c))⟩
  | .exit id => ⟨fun _ _ st => .leaf (.exit id, st)⟩
  | .ret => ⟨fun _ _ st => .leaf (.ret, st)⟩
  | .scope c => ⟨fun e g st => (e.code g c st).bind scopeC⟩
  | _ => ⟨fun _ _ _ => .fail⟩
def codeStep (g : AHeap) (c : Code) (st : St) : Tree (Exit × St) := (cdl E c).run e g st
def retC (g : AHeap) (fn : Func) (st : St) : Tree VR :=
  match resultsA P g fn st.tmps st.h with
  | some v => normV E.frc v fun v => .leaf ⟨v, st.h, st.nx⟩
  | none => .fail
def doneC (g : AHeap) (fn : Func) (r : Exit × St) : Tree VR :=
  match r.1 with
  | .normal => retC E g fn r.2
  | .ret => retC E g fn r.2
  | _ => .fail
def callStep (g : AHeap) (f : FuncId) (args : Array Value) (h : AHeap) (nx : Nat) : Tree VR :=
  match P.funcs[f]? with
  | some fn => match fn.body with
    | some c => bif Nat.ble (args.toList.length + (fn.ntmps - args.toList.length)) roof then startK args.toList fn.ntmps fun t => (e.code g c ⟨t, h, nx⟩).bind (doneC E g fn) else .fail
    | none => .fail
  | none => .fail
def ev (n : Nat) : Ev :=
  Nat.rec (motive := fun _ => Ev) ⟨fun _ _ _ => .fail, fun _ _ _ _ _ => .fail⟩ (fun _ e => ⟨codeStep E e, callStep E e⟩) n
end

section
variable {P : Program} {E : Env P} {e : Ev} {ρ : Nat → Nat} {g h : AHeap} {nx : Nat} {w : World}
theorem getD_ren (t : Array Value) (i : Nat) : (t.map (ren ρ)).getD i undef = ren ρ (t.getD i undef) := by
  simp only [Array.getD_eq_getD_getElem?, Array.getElem?_map]
  cases t[i]? with
  | none => simp [ren_undef]
  | some v => rfl
theorem getD_bel {t : Array Value} (ht : SWf t nx) (i : Nat) : bel nx (t.getD i undef) = true := by
  rw [Array.getD_eq_getD_getElem?]
  by_cases hi : i < t.size
  · rw [Array.getElem?_eq_getElem hi]; exact ht _ (Array.getElem_mem hi)
  · rw [Array.getElem?_eq_none (by omega)]; exact bel_undef _
def resC (t : Array Value) (x : ResultVar) : Sem Value :=
  match x with
  | .tmp i => pure (t.getD i undef)
  | .cell a ty => do loadVar ty (← asAddr (t.getD a undef))
theorem results_eq (fn : Func) (t : Array Value) : results fn t = (do let vs ← fn.results.mapM (resC t); pure (if hh : vs.size = 1 then vs[0] else .tuple vs)) := rfl
theorem run_resA (R : Rel ρ g h nx w) {t : FT} (ht : SWf t.arr nx) {x : ResultVar} {v : Value} (hv : resA P g t h x = some v) :
    (resC (t.arr.map (ren ρ)) x).run P w = .ok (ren ρ v) w ∧ bel nx v = true := by
  cases x with
  | tmp i =>
    simp only [resA, getF_eq] at hv
    cases hv
    exact ⟨by unfold resC; simp only [getD_ren]; rfl, getD_bel ht i⟩
  | cell a ty =>
    unfold resA at hv
    simp only [getF_eq] at hv
    split at hv
    · rename_i ad had
      obtain ⟨h1, h2⟩ := run_aload R hv
      refine ⟨?_, h2⟩
      unfold resC
      simp only [getD_ren, had, ren, asAddr, Sem.run_bind, Sem.run_pure, Result.andThen_ok]
      exact h1
    · cases hv
theorem run_resL (R : Rel ρ g h nx w) {t : FT} (ht : SWf t.arr nx) : ∀ (l : List ResultVar) (vs : List Value), resL P g t h l = some vs →
    (l.mapM (resC (t.arr.map (ren ρ)))).run P w = .ok (vs.map (ren ρ)) w ∧ ∀ v ∈ vs, bel nx v = true
  | [], vs, hv => by cases hv; exact ⟨by simp, by simp⟩
  | x :: r, vs, hv => by
    unfold resL at hv
    split at hv
    · rename_i v us h1 h2
      cases hv
      obtain ⟨a1, a2⟩ := run_resA R ht h1
      obtain ⟨b1, b2⟩ := run_resL R ht r us h2
      refine ⟨?_, fun y hy => ?_⟩
      · rw [List.mapM_cons, Sem.run_bind, a1, Result.andThen_ok, Sem.run_bind, b1]; rfl
      · rcases List.mem_cons.1 hy with rfl | hy
        · exact a2
        · exact b2 y hy
    · cases hv
theorem run_resultsA (R : Rel ρ g h nx w) {t : FT} (ht : SWf t.arr nx) {fn : Func} {v : Value} (hv : resultsA P g fn t h = some v) :
    (results fn (t.arr.map (ren ρ))).run P w = .ok (ren ρ v) w ∧ bel nx v = true := by
  unfold resultsA at hv
  have key : ∀ vs, resL P g t h fn.results.toList = some vs → (results fn (t.arr.map (ren ρ))).run P w = .ok (if hh : (vs.map (ren ρ)).toArray.size = 1 then (vs.map (ren ρ)).toArray[0] else .tuple (vs.map (ren ρ)).toArray) w ∧ ∀ v ∈ vs, bel nx v = true := by
    intro vs h1
    obtain ⟨a1, a2⟩ := run_resL R ht _ vs h1
    refine ⟨?_, a2⟩
    rw [results_eq, Array.mapM_eq_mapM_toList, Sem.run_bind, Sem.run_map, a1]
    rfl
  split at hv
  · rename_i v' h1
    cases hv
    obtain ⟨a1, a2⟩ := key _ h1
    exact ⟨a1, a2 _ (by simp)⟩
  · rename_i vs hne h1
    cases hv
    obtain ⟨a1, a2⟩ := key _ h1
    refine ⟨?_, by rw [bel_tuple]; intro v hv; exact a2 v (by simpa using hv)⟩
    rw [a1, dif_neg]
    · rw [ren_tuple]; simp
    · intro hs
      simp only [List.size_toArray, List.length_map] at hs
      obtain ⟨y, rfl⟩ := List.length_eq_one_iff.1 hs
      exact hne y rfl
  · cases hv

/-- As 'wp', but that a loop begins with a round. -/
def cwp (P : Program) (c : Code) (Q : Exit → Act → World → Prop) (a : Act) (w : World) : Prop :=
  match c with
  | .loop b => ∀ (f : Frame) (k : List Item) (cs : List Frame), ∃ e a' w', Q e a' w' ∧ Arrives P (lone (f.at a (.code b :: .inLoop b :: k)) cs w) f k cs e a' w'
  | c => c.wp P Q a w
theorem cwp_wp {c : Code} {Q : Exit → Act → World → Prop} {a : Act} (h : cwp P c Q a w) : c.wp P Q a w := by
  unfold cwp at h
  split at h
  · intro f k cs
    obtain ⟨e, a', w', hq, harr⟩ := h f k cs
    exact ⟨e, a', w', hq, .of_steps (.one step_loop) harr⟩
  · exact h
theorem cwp_loop {b : Code} {Q : Exit → Act → World → Prop} {a : Act} (h : b.wp P (Exit.then (fun a w => cwp P (.loop b) Q a w) Q) a w) : cwp P (.loop b) Q a w := by
  intro f k cs
  obtain ⟨e, a₁, w₁, hq, harr⟩ := h f (.inLoop b :: k) cs
  cases e with
  | normal =>
    obtain ⟨e₂, a₂, w₂, hq₂, harr₂⟩ := hq f k cs
    exact ⟨e₂, a₂, w₂, hq₂, .of_steps (Steps.trans harr (.one step_inLoop)) harr₂⟩
  | exit id => exact ⟨_, a₁, w₁, hq, .pass (x := .inLoop b) rfl (fun _ _ => .inl (by simp)) harr⟩
  | goto l => exact ⟨_, a₁, w₁, hq, .pass (x := .inLoop b) rfl (fun _ _ => .inl (by simp)) harr⟩
  | ret => exact ⟨_, a₁, w₁, hq, .pass (x := .inLoop b) rfl (fun _ _ => .inl (by simp)) harr⟩
  | panic ch => exact ⟨_, a₁, w₁, hq, .pass (x := .inLoop b) rfl (fun _ _ => .inl (by simp)) harr⟩
  | outgrown => exact ⟨_, a₁, w₁, hq, .pass (x := .inLoop b) rfl (fun _ _ => .inl (by simp)) harr⟩
theorem cwp_of {c : Code} {Q : Exit → Act → World → Prop} {a : Act} (hn : ∀ b, c ≠ .loop b) (h : c.wp P Q a w) : cwp P c Q a w := by
  unfold cwp
  split
  · exact absurd rfl (hn _)
  · exact h
def SatCode (P : Program) (g : AHeap) (c : Code) (st : St) (x : Exit) (st' : St) : Prop :=
  ∀ ρ w, Rel ρ g st.h st.nx w → SWf st.tmps.arr st.nx → cwp P c (Post g x st' ρ st.h st.nx w) (actOf ρ st.tmps.arr) w
structure SoundC (P : Program) (e : Ev) : Prop extends Sound P e where
  code : ∀ g c st r, cok c = true → (e.code g c st).run = some r → SatCode P g c st r.1 r.2
theorem Post.trans {x : Exit} {st' : St} {ρ' : Nat → Nat} {h' : AHeap} {nx' : Nat} {w' : World} (S : Step ρ h nx w ρ' h' nx' w') {e : Exit} {a : Act} {u : World} (hp : Post g x st' ρ' h' nx' w' e a u) : Post g x st' ρ h nx w e a u := by
  obtain ⟨h1, ρ2, h2, h3, h4, h5⟩ := hp
  exact ⟨h1, ρ2, h2, h3, h4, S.trans h5⟩
theorem codeStep_sound (hs : SoundC P e) {c : Code} {st : St} {r : Exit × St} (hok : cok c = true) (hc : (codeStep E e g c st).run = some r) : SatCode P g c st r.1 r.2 := by
  intro ρ w R ht
  have here : ∀ x, Post g x st ρ st.h st.nx w x (actOf ρ st.tmps.arr) w := fun x => ⟨rfl, ρ, rfl, ht, R, R.step⟩
  unfold codeStep cdl at hc
  split at hc
  · cases hc; exact cwp_of (by intro b h; cases h) (wp_skip (here _))
  · cases hc; exact cwp_of (by intro b h; cases h) (wp_label (here _))
  · rename_i id ops draw
    refine cwp_of (by intro b h; cases h) ?_
    unfold regionC at hc
    obtain ⟨s, h1, hc2⟩ := Tree.run_bind_out hc
    clear hc
    cases draw
    · simp only at h1
      cases hc2
      exact wp_region_list (by simpa using seqT_sound hs.toSound ops.toList ops.toList _ _ _ s h1 ρ w R ht)
    · simp only at h1
      cases hc2
      have := drawT_sound (ops := ops.toList) hs.toSound id (by simpa [cok] using hok) h1 R ht
      simpa using this
  · rename_i a b
    simp only [cok, Bool.and_eq_true] at hok
    refine cwp_of (by intro b h; cases h) (wp_seq ?_)
    obtain ⟨s, h1, hc⟩ := Tree.run_bind_out hc
    refine wp_mono (cwp_wp (hs.code g a st s hok.1 h1 ρ w R ht)) ?_
    rintro x a' w' ⟨rfl, ρ', rfl, ht', R', S⟩
    obtain ⟨x, s'⟩ := s
    cases x with
    | normal =>
      exact wp_mono (cwp_wp (hs.code g b s' r hok.2 hc ρ' w' R' ht')) fun x a u hp => hp.trans S
    | exit id => cases hc; exact ⟨rfl, ρ', rfl, ht', R', S⟩
    | goto l => cases hc; exact ⟨rfl, ρ', rfl, ht', R', S⟩
    | ret => cases hc; exact ⟨rfl, ρ', rfl, ht', R', S⟩
    | panic ch => cases hc; exact ⟨rfl, ρ', rfl, ht', R', S⟩
    | outgrown => cases hc; exact ⟨rfl, ρ', rfl, ht', R', S⟩
  · rename_i x a b
    simp only [cok, Bool.and_eq_true] at hok
    unfold condC at hc
    simp only [evF_eq] at hc
    cases hx : opndOk x <;> simp only [hx, cond_true, cond_false] at hc
    · cases hc
    split at hc
    · rename_i t htv
      have hev : (actOf ρ st.tmps.arr).eval x = .bool t := by rw [actOf_eval R hx, htv]; rfl
      refine cwp_of (by intro b h; cases h) (wp_cond hev ?_)
      rcases run_brF hc with ⟨rfl, hc2⟩ | ⟨rfl, hc2⟩
      · exact cwp_wp (hs.code g a st r hok.1 hc2 ρ w R ht)
      · exact cwp_wp (hs.code g b st r hok.2 hc2 ρ w R ht)
    · cases hc
  · rename_i id c
    simp only [cok] at hok
    refine cwp_of (by intro b h; cases h) (wp_block ?_)
    obtain ⟨s, h1, hc⟩ := Tree.run_bind_out hc
    refine wp_mono (cwp_wp (hs.code g c st s hok h1 ρ w R ht)) ?_
    rintro x a' w' ⟨rfl, ρ', rfl, ht', R', S⟩
    obtain ⟨x, s'⟩ := s
    cases x with
    | exit id' =>
      simp only [blockC] at hc
      simp only [Exit.inBlock]
      cases hb : Nat.beq id' id <;> simp only [hb, cond_true, cond_false] at hc
      · cases hc
        have hne : ¬ id' = id := fun he => by rw [he] at hb; simp at hb
        rw [if_neg hne]; exact ⟨rfl, ρ', rfl, ht', R', S⟩
      · cases hc
        rw [Nat.beq_eq] at hb
        rw [if_pos hb]; exact ⟨rfl, ρ', rfl, ht', R', S⟩
    | normal => cases hc; exact ⟨rfl, ρ', rfl, ht', R', S⟩
    | goto l => cases hc; exact ⟨rfl, ρ', rfl, ht', R', S⟩
    | ret => cases hc; exact ⟨rfl, ρ', rfl, ht', R', S⟩
    | panic ch => cases hc; exact ⟨rfl, ρ', rfl, ht', R', S⟩
    | outgrown => cases hc; exact ⟨rfl, ρ', rfl, ht', R', S⟩
  · rename_i c
    have hok' := hok
    simp only [cok] at hok
    refine cwp_loop ?_
    obtain ⟨s, h1, hc⟩ := Tree.run_bind_out hc
    refine wp_mono (cwp_wp (hs.code g c st s hok h1 ρ w R ht)) ?_
    rintro x a' w' ⟨rfl, ρ', rfl, ht', R', S⟩
    obtain ⟨x, s'⟩ := s
    cases x with
    | normal =>
      intro f k cs
      obtain ⟨e, a2, w2, hq, harr⟩ := hs.code g (.loop c) s' r hok' hc ρ' w' R' ht' f k cs
      exact ⟨e, a2, w2, hq.trans S, harr⟩
    | exit id => cases hc; exact ⟨rfl, ρ', rfl, ht', R', S⟩
    | goto l => cases hc; exact ⟨rfl, ρ', rfl, ht', R', S⟩
    | ret => cases hc; exact ⟨rfl, ρ', rfl, ht', R', S⟩
    | panic ch => cases hc; exact ⟨rfl, ρ', rfl, ht', R', S⟩
    | outgrown => cases hc; exact ⟨rfl, ρ', rfl, ht', R', S⟩
  · cases hc; exact cwp_of (by intro b h; cases h) (wp_exit (here _))
  · cases hc; exact cwp_of (by intro b h; cases h) (wp_ret (here _))
  · rename_i c
    simp only [cok] at hok
    refine cwp_of (by intro b h; cases h) (wp_scope_straight ?_)
    obtain ⟨s, h1, hc⟩ := Tree.run_bind_out hc
    refine wp_mono (cwp_wp (hs.code g c st s hok h1 ρ w R ht)) ?_
    rintro x a' w' ⟨rfl, ρ', rfl, ht', R', S⟩
    obtain ⟨x, s'⟩ := s
    cases x with
    | goto l => cases hc
    | normal => cases hc; exact ⟨rfl, ρ', rfl, ht', R', S⟩
    | exit id => cases hc; exact ⟨rfl, ρ', rfl, ht', R', S⟩
    | ret => cases hc; exact ⟨rfl, ρ', rfl, ht', R', S⟩
    | panic ch => cases hc; exact ⟨rfl, ρ', rfl, ht', R', S⟩
    | outgrown => cases hc; exact ⟨rfl, ρ', rfl, ht', R', S⟩
  · cases hc
theorem callStep_sound (hs : SoundC P e) (hcok : ∀ (f : Nat) fn c, P.funcs[f]? = some fn → fn.body = some c → cok c = true) {f : FuncId} {args : Array Value} {r : VR} (hc : (callStep E e g f args h nx).run = some r) :
    SatCall P g f args h nx r ∧ (P.funcs[f]?.bind (·.body)).isSome = true := by
  unfold callStep at hc
  split at hc
  · rename_i fn hf
    split at hc
    · rename_i c hb
      cases hle : Nat.ble (args.toList.length + (fn.ntmps - args.toList.length)) roof <;> simp only [hle, cond_true, cond_false] at hc
      · cases hc
      rw [startK_eq] at hc
      have e1 : (start args.toList fn.ntmps).arr = args ++ Array.replicate (fn.ntmps - args.size) undef := by
        rw [start_arr _ _ (by rwa [Nat.ble_eq] at hle)]
        apply Array.toList_inj.1; simp
      refine ⟨fun ρ w R ha => ?_, by rw [hf]; simp [hb]⟩
      obtain ⟨s, h1, hc⟩ := Tree.run_bind_out hc
      have hst : SWf (start args.toList fn.ntmps).arr nx := by
        rw [e1]
        intro v hv
        rcases Array.mem_append.1 hv with hv | hv
        · exact ha v hv
        · rw [(Array.mem_replicate.1 hv).2]; exact bel_undef _
      have hact : (⟨args.map (ren ρ) ++ Array.replicate (fn.ntmps - (args.map (ren ρ)).size) undef, []⟩ : Act) = actOf ρ (start args.toList fn.ntmps).arr := by
        rw [e1]; unfold actOf; rw [Array.map_append, Array.map_replicate, ren_undef, Array.size_map]
      have key : ∀ v, resultsA P g fn s.2.tmps s.2.h = some v → r = ⟨v, s.2.h, s.2.nx⟩ → ∀ a' w', Post g s.1 s.2 ρ h nx w s.1 a' w' →
          a'.defers = [] ∧ ∃ u, (results fn a'.tmps).run P w' = .ok u w' ∧ (∃ ρ', Ending.returned u = .returned (ren ρ' r.v) ∧ bel r.nx r.v = true ∧ Rel ρ' g r.h r.nx w' ∧ Step ρ h nx w ρ' r.h r.nx w') := by
        rintro v hv rfl a' w' ⟨_, ρ', rfl, ht', R', S⟩
        obtain ⟨a1, a2⟩ := run_resultsA R' ht' hv
        exact ⟨rfl, _, a1, ρ', rfl, a2, R', S⟩
      refine calls_of_wp hf hb ?_
      rw [hact]
      refine wp_mono (cwp_wp (hs.code g c _ s (hcok f fn c hf hb) h1 ρ w R hst)) ?_
      intro x a' w' hp
      obtain ⟨rfl, hp'⟩ := hp
      obtain ⟨x, s'⟩ := s
      cases x with
      | normal =>
        simp only [doneC, retC] at hc
        split at hc
        · rename_i v hv
          rw [normV_run] at hc
          cases hc; exact key v hv rfl a' w' ⟨rfl, hp'⟩
        · cases hc
      | ret =>
        simp only [doneC, retC] at hc
        split at hc
        · rename_i v hv
          rw [normV_run] at hc
          cases hc; exact key v hv rfl a' w' ⟨rfl, hp'⟩
        · cases hc
      | exit id => cases hc
      | goto l => cases hc
      | panic ch => cases hc
      | outgrown => cases hc
    · cases hc
  · cases hc
theorem ev_sound (E : Env P) (hcok : ∀ (f : Nat) fn c, P.funcs[f]? = some fn → fn.body = some c → cok c = true) : ∀ n, SoundC P (ev E n)
  | 0 => { call := fun _ _ _ _ _ _ h => (by cases h), code := fun _ _ _ _ _ h => (by cases h) }
  | n + 1 => { call := fun _ _ _ _ _ _ h => callStep_sound (ev_sound E hcok n) hcok h, code := fun _ _ _ _ hok h => codeStep_sound (ev_sound E hcok n) hok h }
end
end
end Go.Den
