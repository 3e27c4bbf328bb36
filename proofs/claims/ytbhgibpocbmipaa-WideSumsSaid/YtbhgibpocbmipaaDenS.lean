/-
  Pieces of code, one behind another: what each comes to, put together.
-/
import Derived.Test.YtbhgibpocbmipaaDenY
namespace Go.Den
open Go.RowKit
noncomputable section

def cL : Code → Code
  | .seq a _ => a
  | .cond _ a _ => a
  | .block _ c => c
  | .loop c => c
  | .scope c => c
  | c => c
def cR : Code → Code
  | .seq _ b => b
  | .cond _ _ b => b
  | c => c
section
variable {P : Program} {g : AHeap} {c a b : Code} {st s1 s2 : St} {x : Exit} {id : Nat}
theorem cwp_mono {Q Q' : Exit → Act → World → Prop} {a : Act} {w : World} (h : cwp P c Q a w) (hQ : ∀ x a w, Q x a w → Q' x a w) : cwp P c Q' a w := by
  unfold cwp at *
  split at h
  · intro f k cs
    obtain ⟨e, a', w', hq, harr⟩ := h f k cs
    exact ⟨e, a', w', hQ _ _ _ hq, harr⟩
  · rename_i hne
    exact wp_mono h hQ
theorem sat_read (E : Env P) (hcok : ∀ (f : Nat) fn c, P.funcs[f]? = some fn → fn.body = some c → cok c = true) (n : Nat) {r : Exit × St} (hok : cok c = true) (h : ((ev E n).code g c st).run = some r) : SatCode P g c st r.1 r.2 :=
  (ev_sound E hcok n).code g c st r hok h
theorem sat_seq (hc : c = .seq a b) (h1 : SatCode P g a st .normal s1) (h2 : SatCode P g b s1 x s2) : SatCode P g c st x s2 := by
  subst hc
  intro ρ w R ht
  refine cwp_of (by intro b h; cases h) (wp_seq ?_)
  refine wp_mono (cwp_wp (h1 ρ w R ht)) ?_
  rintro x a' w' ⟨rfl, ρ', rfl, ht', R', S⟩
  exact wp_mono (cwp_wp (h2 ρ' w' R' ht')) fun x a u hp => hp.trans S
theorem sat_seq_exit (hc : c = .seq a b) (h1 : SatCode P g a st (.exit id) s1) : SatCode P g c st (.exit id) s1 := by
  subst hc
  intro ρ w R ht
  refine cwp_of (by intro b h; cases h) (wp_seq ?_)
  refine wp_mono (cwp_wp (h1 ρ w R ht)) ?_
  rintro x a' w' ⟨rfl, ρ', rfl, ht', R', S⟩
  exact ⟨rfl, ρ', rfl, ht', R', S⟩
theorem sat_block (hc : c = .block id b) (h : SatCode P g b st (.exit id) s1) : SatCode P g c st .normal s1 := by
  subst hc
  intro ρ w R ht
  refine cwp_of (by intro b h; cases h) (wp_block ?_)
  refine wp_mono (cwp_wp (h ρ w R ht)) ?_
  rintro x a' w' ⟨rfl, ρ', rfl, ht', R', S⟩
  simp only [Exit.inBlock, if_pos]
  exact ⟨rfl, ρ', rfl, ht', R', S⟩
theorem sat_block_normal (hc : c = .block id b) (h : SatCode P g b st .normal s1) : SatCode P g c st .normal s1 := by
  subst hc
  intro ρ w R ht
  refine cwp_of (by intro b h; cases h) (wp_block ?_)
  refine wp_mono (cwp_wp (h ρ w R ht)) ?_
  rintro x a' w' ⟨rfl, ρ', rfl, ht', R', S⟩
  exact ⟨rfl, ρ', rfl, ht', R', S⟩
theorem sat_loop (hc : c = .loop b) (h1 : SatCode P g b st .normal s1) (h2 : SatCode P g c s1 x s2) : SatCode P g c st x s2 := by
  subst hc
  intro ρ w R ht
  refine cwp_loop ?_
  refine wp_mono (cwp_wp (h1 ρ w R ht)) ?_
  rintro x a' w' ⟨rfl, ρ', rfl, ht', R', S⟩
  intro f k cs
  obtain ⟨e, a2, w2, hq, harr⟩ := h2 ρ' w' R' ht' f k cs
  exact ⟨e, a2, w2, hq.trans S, harr⟩
theorem sat_loop_exit (hc : c = .loop b) (h1 : SatCode P g b st (.exit id) s1) : SatCode P g c st (.exit id) s1 := by
  subst hc
  intro ρ w R ht
  refine cwp_loop ?_
  refine wp_mono (cwp_wp (h1 ρ w R ht)) ?_
  rintro x a' w' ⟨rfl, ρ', rfl, ht', R', S⟩
  exact ⟨rfl, ρ', rfl, ht', R', S⟩
/-- The same temporaries, told in another way. -/
theorem sat_arr (ht : s2.tmps.arr = st.tmps.arr) (hh : s2.h = st.h) (hn : s2.nx = st.nx) (h : SatCode P g c s2 x s1) : SatCode P g c st x s1 := by
  intro ρ w R hs
  have := h ρ w (by rw [hn, hh]; exact R) (by rw [ht, hn]; exact hs)
  rw [ht, hn, hh] at this
  exact this
/-- Blocks that are not wanted any more. -/
theorem sat_drop (ht : s2.tmps = st.tmps) (hn : s2.nx = st.nx) (hh : ∀ b B, s2.h.get b = some B → st.h.get b = some B) (h : SatCode P g c s2 x s1) : SatCode P g c st x s1 := by
  intro ρ w R hs
  have := h ρ w (by rw [hn]; exact R.sub hh fun _ _ h => h) (by rw [ht, hn]; exact hs)
  rw [ht, hn] at this
  refine cwp_mono this ?_
  rintro x a w' ⟨rfl, ρ', rfl, ht', R', S⟩
  refine ⟨rfl, ρ', rfl, ht', R', S.le, S.agree, fun b B hb hl => ?_, S.new, S.size, S.os, S.tape, S.output, fun k hk hno => S.keep k hk fun b B hb => hno b B (hh b B hb)⟩
  obtain ⟨C, hC⟩ := S.old b B hb hl
  exact ⟨C, hh b C hC⟩
theorem sat_call {f : FuncId} {fn : Func} {args : Array Value} {h : AHeap} {nx : Nat} {v : Value} (hf : P.funcs[f]? = some fn) (hb : fn.body = some c) (hle : Nat.ble (args.toList.length + (fn.ntmps - args.toList.length)) roof = true)
    (hs : SatCode P g c ⟨start args.toList fn.ntmps, h, nx⟩ x s1) (hx : x = .normal ∨ x = .ret) (hv : resultsA P g fn s1.tmps s1.h = some v) : SatCall P g f args h nx ⟨v, s1.h, s1.nx⟩ := by
  have e1 : (start args.toList fn.ntmps).arr = args ++ Array.replicate (fn.ntmps - args.size) undef := by
    rw [start_arr _ _ (by rwa [Nat.ble_eq] at hle)]
    apply Array.toList_inj.1; simp
  intro ρ w R ha
  have hst : SWf (start args.toList fn.ntmps).arr nx := by
    rw [e1]
    intro v hv
    rcases Array.mem_append.1 hv with hv | hv
    · exact ha v hv
    · rw [(Array.mem_replicate.1 hv).2]; exact bel_undef _
  have hact : (⟨args.map (ren ρ) ++ Array.replicate (fn.ntmps - (args.map (ren ρ)).size) undef, []⟩ : Act) = actOf ρ (start args.toList fn.ntmps).arr := by
    rw [e1]; unfold actOf; rw [Array.map_append, Array.map_replicate, ren_undef, Array.size_map]
  refine calls_of_wp hf hb ?_
  rw [hact]
  refine wp_mono (cwp_wp (hs ρ w R hst)) ?_
  rintro e a' w' ⟨rfl, ρ', rfl, ht', R', S⟩
  obtain ⟨a1, a2⟩ := run_resultsA R' ht' hv
  have key : (actOf ρ' s1.tmps.arr).defers = [] ∧ ∃ u, (results fn (actOf ρ' s1.tmps.arr).tmps).run P w' = .ok u w' ∧ (∃ ρ2, Ending.returned u = .returned (ren ρ2 v) ∧ bel s1.nx v = true ∧ Rel ρ2 g s1.h s1.nx w' ∧ Step ρ h nx w ρ2 s1.h s1.nx w') :=
    ⟨rfl, _, a1, ρ', rfl, a2, R', S⟩
  rcases hx with rfl | rfl
  · exact key
  · exact key
theorem calls_sat {f : FuncId} {args : Array Value} {r : VR} (h1 : SatCall P [] f args [] B0 r) (ha : args.all (bel B0) = true) (hv : bel B0 r.v = true) (w : World) : Calls P f args w fun e w' => e = .returned r.v ∧ Below w.heap.size w w' := by
  have R : Rel id [] [] B0 w := ⟨fun _ _ => rfl, Nat.le_refl _, fun b B h => (by cases h), fun b B h => (by cases h), fun b b' B B' h => (by cases h), fun b b' B B' h => (by cases h), fun b B h => (by cases h), fun b B h => (by cases h), fun b B h => (by cases h), fun b B h => (by cases h)⟩
  have hargs : ∀ v ∈ args, bel B0 v = true := Array.all_eq_true_iff_forall_mem.1 ha
  have h2 := h1 id w R hargs
  rw [map_low R hargs] at h2
  refine h2.mono ?_
  rintro e w' ⟨ρ', rfl, hb, R', S⟩
  exact ⟨by rw [ren_id R'.low r.v hv], ⟨S.os, S.tape, S.output, S.size, fun k hk => S.none_keep k hk⟩⟩
/-- What a tree without partings comes to. -/
def outOf (t : Tree (Exit × St)) : Exit × St := t.run.getD (.normal, ⟨⟨0, .nil⟩, [], 0⟩)
def tlOf (s : St) : List Value := (List.range s.tmps.size).map fun i => s.tmps.tr.get i
theorem run_outOf {t : Tree (Exit × St)} (h : t.run.isSome = true) : t.run = some (outOf t) := by
  unfold outOf
  cases ht : t.run with
  | none => rw [ht] at h; cases h
  | some r => rfl
end
end
end Go.Den
