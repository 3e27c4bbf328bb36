/-
  What is read of calls, of operations, and of regions in the order of their text holds in every world.
-/
import Derived.Test.YtbhgibpocbmipaaDenF
namespace Go.Den
open Go.RowKit
noncomputable section

section
variable {P : Program} {E : Env P} {e : Ev} {ρ ρ' : Nat → Nat} {g h h' : AHeap} {nx nx' : Nat} {w w' : World}
/-- All that was known stands, in a world in which no old block has turned. -/
theorem Rel.later (R : Rel ρ g h nx w) (ha : ∀ b, b < nx → ρ' b = ρ b) (hk : ∀ c, c < w.heap.size → w'.heap[c]? = w.heap[c]?) : Rel ρ' g h nx w' where
  low := fun b hb => by have := R.base; rw [ha b (by omega)]; exact R.low b hb
  base := R.base
  gat := fun b B hb => by
    have h1 := R.gat b B hb
    rw [ha b (R.glt b B hb)]; exact (h1.agree ha (R.gbel b B hb)).keep (hk _ h1.lt)
  hat := fun b B hb => by
    have h1 := R.hat b B hb
    rw [ha b (R.lt b B hb).2]; exact (h1.agree ha (R.hbel b B hb)).keep (hk _ h1.lt)
  inj := fun b b' B B' h1 h2 he => by rw [ha b (R.lt b B h1).2, ha b' (R.lt b' B' h2).2] at he; exact R.inj b b' B B' h1 h2 he
  dis := fun b b' B B' h1 h2 => by rw [ha b (R.lt b B h1).2, ha b' (R.glt b' B' h2)]; exact R.dis b b' B B' h1 h2
  lt := R.lt
  glt := R.glt
  hbel := R.hbel
  gbel := R.gbel
theorem Step.none_keep (S : Step ρ [] nx w ρ' h' nx' w') : ∀ c, c < w.heap.size → w'.heap[c]? = w.heap[c]? :=
  fun c hc => S.keep c hc fun b B hb => by cases hb
theorem Step.none_new (S : Step ρ [] nx w ρ' h' nx' w') {b : Nat} {B : ABlk} (hb : h'.get b = some B) : nx ≤ b := by
  rcases Nat.lt_or_ge b nx with h1 | h1
  · obtain ⟨C, hC⟩ := S.old b B hb h1; cases hC
  · exact h1
theorem Step.drop (R : Rel ρ g h nx w) (S : Step ρ [] nx w ρ' h' nx' w') : Rel ρ' g h nx w' ∧ Step ρ h nx w ρ' h nx w' :=
  ⟨R.later S.agree S.none_keep, ⟨Nat.le_refl _, S.agree, fun b B hb _ => ⟨B, hb⟩, fun b B hb hn => absurd (R.lt b B hb).2 (by omega), S.size, S.os, S.tape, S.output, fun c hc _ => S.none_keep c hc⟩⟩
theorem Step.join (R : Rel ρ g h nx w) (S : Step ρ [] nx w ρ' h' nx' w') (R' : Rel ρ' g h' nx' w') : Rel ρ' g (h' ++ h : AHeap) nx' w' ∧ Step ρ h nx w ρ' (h' ++ h : AHeap) nx' w' := by
  have L := R.later S.agree S.none_keep
  have key : ∀ b B, (h' ++ h : AHeap).get b = some B → (nx ≤ b ∧ h'.get b = some B) ∨ (b < nx ∧ h.get b = some B) := by
    intro b B hb
    rw [AHeap.get_append] at hb
    cases hh : h'.get b with
    | some C => rw [hh] at hb; simp at hb; subst hb; exact .inl ⟨S.none_new hh, rfl⟩
    | none => rw [hh] at hb; simp at hb; exact .inr ⟨(R.lt b B hb).2, hb⟩
  have hold : ∀ b B, h.get b = some B → ρ' b < w.heap.size := fun b B hb => by
    rw [S.agree b (R.lt b B hb).2]; exact (R.hat b B hb).lt
  refine ⟨⟨R'.low, R'.base, R'.gat, fun b B hb => ?_, fun b b' B B' h1 h2 he => ?_, fun b b' B B' h1 h2 => ?_, fun b B hb => ?_, R'.glt, fun b B hb => ?_, R'.gbel⟩,
    ⟨S.le, S.agree, fun b B hb hn => ?_, fun b B hb hn => ?_, S.size, S.os, S.tape, S.output, fun c hc _ => S.none_keep c hc⟩⟩
  · rcases key b B hb with ⟨_, h1⟩ | ⟨_, h1⟩
    · exact R'.hat b B h1
    · exact L.hat b B h1
  · rcases key b B h1 with ⟨n1, k1⟩ | ⟨n1, k1⟩ <;> rcases key b' B' h2 with ⟨n2, k2⟩ | ⟨n2, k2⟩
    · exact R'.inj b b' B B' k1 k2 he
    · have := S.new b B k1 n1; have := hold b' B' k2; omega
    · have := S.new b' B' k2 n2; have := hold b B k1; omega
    · exact L.inj b b' B B' k1 k2 he
  · rcases key b B h1 with ⟨n1, k1⟩ | ⟨n1, k1⟩
    · exact R'.dis b b' B B' k1 h2
    · exact L.dis b b' B B' k1 h2
  · rcases key b B hb with ⟨n1, k1⟩ | ⟨n1, k1⟩
    · exact R'.lt b B k1
    · have := L.lt b B k1; have := S.le; omega
  · rcases key b B hb with ⟨n1, k1⟩ | ⟨n1, k1⟩
    · exact R'.hbel b B k1
    · exact (L.hbel b B k1).mono S.le
  · rcases key b B hb with ⟨n1, k1⟩ | ⟨n1, k1⟩
    · omega
    · exact ⟨B, k1⟩
  · rcases key b B hb with ⟨n1, k1⟩ | ⟨n1, k1⟩
    · exact S.new b B k1 n1
    · omega
theorem Rel.bare (R : Rel ρ g h nx w) : Rel ρ g [] nx w := R.sub (fun b B hb => by cases hb) (fun _ _ hb => hb)

theorem AHeap.append_nil_get (h : AHeap) : ([] ++ h : AHeap) = h := rfl

/-- A call does what is read: it hands a value back at once, or is entered. -/
def CallSat (P : Program) (g : AHeap) (f : FuncId) (args : Array Value) (h : AHeap) (nx : Nat) (r : VR) : Prop :=
  ∀ ρ w, Rel ρ g h nx w → SWf args nx → ∀ (next : Value → World → Prop),
    (∀ ρ' w', bel r.nx r.v = true → Rel ρ' g r.h r.nx w' → Step ρ h nx w ρ' r.h r.nx w' → next (ren ρ' r.v) w') →
    (∃ v, (callFunc f (args.map (ren ρ))).run P w = .ok (.value v) w ∧ next v w) ∨
    ((callFunc f (args.map (ren ρ))).run P w = .ok (.enter f (args.map (ren ρ))) w ∧ Calls P f (args.map (ren ρ)) w fun e w' => ∃ v, e = .returned v ∧ next v w')

structure Sound (P : Program) (e : Ev) : Prop where
  call : ∀ g f args h nx r, (e.call g f args h nx).run = some r → SatCall P g f args h nx r ∧ (P.funcs[f]?.bind (·.body)).isSome = true

theorem callR_sound (hs : Sound P e) {f : FuncId} {args : Array Value} {r : VR} (hc : (callR E e g f args h nx).run = some r) : SatCall P g f args h nx r ∧ (P.funcs[f]?.bind (·.body)).isSome = true := by
  unfold callR at hc
  split at hc
  · rename_i p hp; exact E.horc _ _ _ _ _ _ _ hp hc
  · exact hs.call _ _ _ _ _ _ hc
theorem enter_of (E : Env P) {f : FuncId} (hb : (P.funcs[f]?.bind (·.body)).isSome = true) (args : Array Value) (w : World) : (callFunc f args).run P w = .ok (.enter f args) w := by
  cases hf : P.funcs[f]? with
  | none => rw [hf] at hb; cases hb
  | some fn => rw [hf] at hb; exact run_callFunc_body hf (E.hng f fn hf) hb args w
theorem SatCall.sat (E : Env P) {f : FuncId} {args : Array Value} {r : VR} (h1 : SatCall P g f args h nx r) (h2 : (P.funcs[f]?.bind (·.body)).isSome = true) : CallSat P g f args h nx r := by
  intro ρ w R hargs next hnext
  refine .inr ⟨enter_of E h2 _ w, (h1 ρ w R hargs).mono ?_⟩
  rintro ex w' ⟨ρ', rfl, hb, R', S⟩
  exact ⟨_, rfl, hnext ρ' w' hb R' S⟩
theorem callL_sound (hs : Sound P e) {f : FuncId} {args : Array Value} {r : VR} (hc : (callL E e g f args nx).run = some r) (hlow : args.all (bel B0) = true) : CallSat P g f args [] nx r := by
  intro ρ w R hargs next hnext
  have hid : args.map (ren ρ) = args := map_low R fun v hv => (Array.all_eq_true_iff_forall_mem.1 hlow) v hv
  unfold callL at hc
  simp only [belF_eq] at hc
  split at hc
  · rename_i q hq
    obtain ⟨hok, hc⟩ := run_guardF hc
    cases hc
    obtain ⟨hb, hrun⟩ := E.hext f args q hq hok
    refine .inl ⟨q.2, by rw [hid]; exact hrun w, ?_⟩
    have := hnext ρ w (bel_low R hb) R R.step
    rwa [ren_low R hb] at this
  · obtain ⟨q, hq, hc⟩ := Tree.run_bind_out hc
    obtain ⟨h1, h2⟩ := callR_sound hs hq
    cases hc
    refine .inr ⟨enter_of E h2 _ w, (h1 ρ w R hargs).mono ?_⟩
    rintro ex w' ⟨ρ', rfl, hb, R', S⟩
    refine ⟨_, rfl, ?_⟩
    cases hl : bel B0 q.v
    · rw [hl] at hnext
      exact hnext ρ' w' hb R' S
    · rw [hl] at hnext
      obtain ⟨R2, S2⟩ := S.drop R
      exact hnext ρ' w' (bel_low R2 hl) R2 S2
theorem callF_sound (hs : Sound P e) {f : FuncId} {args : Array Value} {r : VR} (hc : (callF E e g f args h nx).run = some r) : CallSat P g f args h nx r := by
  unfold callF at hc
  rw [belF_fun, fall_eq] at hc
  cases hlow : args.all (bel B0) <;> simp only [hlow, cond_true, cond_false] at hc
  · obtain ⟨h1, h2⟩ := callR_sound hs hc
    exact h1.sat E h2
  · obtain ⟨q, hq, hc⟩ := Tree.run_bind_out hc
    cases hc
    intro ρ w R hargs next hnext
    exact callL_sound hs hq hlow ρ w R.bare hargs next fun ρ' w' hb R' S => by
      obtain ⟨R2, S2⟩ := S.join R R'
      exact hnext ρ' w' hb R2 S2
theorem call_not_select {o : Oper} {c : Call} (ho : o.op = .call c) : ∀ cs b, o.op ≠ .select cs b := by intro cs b h; rw [ho] at h; cases h
theorem opSat_call {o : Oper} {c : Call} {t : Array Value} {f : Operand} {fid : FuncId} {first cap : Array Value} {r : VR} (ho : o.op = .call c) (hok : opndsOk c = true) (hcc : c.callee = .value f)
    (hf : (⟨t, []⟩ : Act).eval f = .func (.func fid) first cap) (hc : CallSat P g fid (first ++ c.args.map (⟨t, []⟩ : Act).eval ++ cap) h nx r) : OpSat P o g t h nx r := by
  intro ρ w R ht a next Q hagree hnext
  have hops : ∀ x ∈ c.operands, opndOk x = true := (opndsOk_eq c).1 hok
  have hfo : opndOk f = true := hops f (by simp [Call.operands, hcc])
  have hao : ∀ x ∈ c.args, opndOk x = true := fun x hx => hops x (by simp [Call.operands, hx])
  have hmemf : f ∈ o.op.operands := by rw [ho]; simp [Op.operands, Call.operands, hcc]
  have hmema : ∀ x ∈ c.args, x ∈ o.op.operands := fun x hx => by rw [ho]; simp [Op.operands, Call.operands, hx]
  have hfb := ht f hmemf hfo
  rw [hf, bel_func] at hfb
  have hargs : SWf (first ++ c.args.map (⟨t, []⟩ : Act).eval ++ cap) nx := by
    intro v hv
    simp only [Array.mem_append] at hv
    rcases hv with (hv | hv) | hv
    · exact hfb.1 v hv
    · obtain ⟨x, hx, rfl⟩ := Array.mem_map.1 hv; exact ht x (hmema x hx) (hao x hx)
    · exact hfb.2 v hv
  have hren : (first ++ c.args.map (⟨t, []⟩ : Act).eval ++ cap).map (ren ρ) = first.map (ren ρ) ++ c.args.map (actOf ρ t).eval ++ cap.map (ren ρ) := by
    simp only [Array.map_append, Array.map_map]
    congr 2
    exact Array.map_congr_left fun x hx => (actOf_eval R (hao x hx)).symm
  have hfc : (actOf ρ t).eval f = .func (.func fid) (first.map (ren ρ)) (cap.map (ren ρ)) := by rw [actOf_eval R hfo, hf, ren_func]
  unfold Oper.wp
  rw [execOp_congr o (call_not_select ho) hagree, run_call_value ho hcc hfc, ← hren]
  rcases hc ρ w R hargs (fun v w' => next (a.put o.dst v) w') (fun ρ' w' hb R' S => hnext ρ' w' hb R' S) with ⟨v, hr, hn⟩ | ⟨hr, hcalls⟩
  · rw [hr]; exact hn
  · rw [hr, Oper.upon_enter]
    refine hcalls.mono ?_
    rintro ex w' ⟨v, rfl, hn⟩
    exact hn
theorem aop_not_select {o : Oper} {ev : Operand → Value} {so : TypeId → Bool} {r : ARes} (hr : aop P so g o ev h nx = some r) : ∀ cs b, o.op ≠ .select cs b := by
  intro cs b ho
  unfold aop hdl at hr
  rw [ho] at hr
  cases hall : (Op.select cs b).operands.toList.all opndOk <;> simp only [hall, cond_true, cond_false, hdlD] at hr <;> cases hr
theorem aopT_eq {o : Oper} {t : FT} {r : VR} (hr : (aopT E g o t h nx).run = some r) : ∃ q, aop P E.so g o (⟨t.arr, []⟩ : Act).eval h nx = some q ∧ q.ok = true ∧ r = ⟨q.v, q.h, q.nx⟩ := by
  unfold aopT at hr
  split at hr
  · rename_i q hq
    obtain ⟨ty, x, y⟩ := q
    have ho : o.op = .store ty x y := storeOf_eq hq
    simp only [evF_eq] at hr
    split at hr
    · rename_i a ha
      unfold storeT at hr
      simp only [plainT_eq, plainH_eq] at hr
      cases hall : o.op.operands.toList.all opndOk <;> simp only [hall, cond_true, cond_false] at hr
      · cases hr
      split at hr
      · rename_i B n h1 h2 h3
        cases hcc : (Nat.beq (((⟨t.arr, []⟩ : Act).eval y).cells.size) n && Nat.ble (a.off + n) B.cells.size && fall (·.oneCell') ((⟨t.arr, []⟩ : Act).eval y).cells) <;> simp only [hcc, cond_true, cond_false] at hr
        · cases hr
        · cases hr
          refine ⟨⟨true, undef, _, nx⟩, ?_, rfl, rfl⟩
          unfold aop hdl
          rw [hall]
          simp only [cond_true, hdlD, storeA, ho, ha, astore, h1, h2, h3, hcc, Option.map_some]; rfl
      · cases hr
    · cases hr
  · unfold aopP at hr
    simp only [evF_eq] at hr
    split at hr
    · rename_i q hq
      obtain ⟨hok, hr2⟩ := run_guardF hr
      rw [normV_run] at hr2
      cases hr2
      exact ⟨q, hq, hok, rfl⟩
    · cases hr
theorem opSat_aop {o : Oper} {t : FT} {r : VR} (hr : (aopT E g o t h nx).run = some r) : OpSat P o g t.arr h nx r := by
  obtain ⟨q, hq, hok, rfl⟩ := aopT_eq hr
  intro ρ w R ht a next Q hagree hnext
  obtain ⟨ρ', w', hrun, R', S, hb⟩ := aop_sound (c := (actOf ρ t.arr).eval) E.hso hq hok R (fun x hm hx => ⟨actOf_eval R hx, ht x hm hx⟩)
  have hn := hnext ρ' w' hb R' S
  unfold Oper.wp
  rw [execOp_congr o (aop_not_select hq) hagree]
  rcases hrun with hrun | ⟨hrun, hu⟩
  · rw [hrun]; exact hn
  · rw [hrun]; rw [hu, ren_undef] at hn; exact hn
theorem aopP_T {o : Oper} {t : FT} (ho : storeOf o.op = none) : aopP E g o t h nx = aopT E g o t h nx := by
  unfold aopT; rw [ho]
theorem opSat_builtin {o : Oper} {c : Call} {b : Builtin} {t : Array Value} {v : Value} (ho : o.op = .call c) (hok : opndsOk c = true) (hcc : c.callee = .builtin b)
    (hv : builtinA P b c.argTypes.toList (c.args.map (⟨t, []⟩ : Act).eval).toList = some v) : OpSat P o g t h nx ⟨v, h, nx⟩ := by
  intro ρ w R ht a next Q hagree hnext
  have hops : ∀ x ∈ c.operands, opndOk x = true := (opndsOk_eq c).1 hok
  have hao : ∀ x ∈ c.args, opndOk x = true := fun x hx => hops x (by simp [Call.operands, hx])
  have hren : (c.args.map (⟨t, []⟩ : Act).eval).map (ren ρ) = c.args.map (actOf ρ t).eval := by
    rw [Array.map_map]; exact Array.map_congr_left fun x hx => (actOf_eval R (hao x hx)).symm
  unfold Oper.wp
  obtain ⟨h1, h2, h3⟩ := run_builtinA hv o.type (c.args.map fun | .const _ => true | _ => false) ρ w
  have hrun : (execOp (actOf ρ t).eval o).run P w = .ok (.value v) w := by
    simp only [execOp, ho, resolve, hcc, Sem.run_bind, Sem.run_pure, Result.andThen_ok, invoke]
    rw [← hren]; exact h1
  rw [execOp_congr o (call_not_select ho) hagree, hrun]
  have := hnext ρ w (h3 nx) R R.step
  rwa [h2] at this
theorem callK_sound {o : Oper} {c : Call} {t : FT} {r : VR} {k : FuncId → Array Value → Tree VR} (ho : o.op = .call c) (hk : ∀ f args r, (k f args).run = some r → CallSat P g f args h nx r)
    (hc : (callK (P := P) c t h nx k).run = some r) : OpSat P o g t.arr h nx r := by
  unfold callK at hc
  simp only [evF_eq] at hc
  cases hok : opndsOk c <;> simp only [hok, cond_true, cond_false] at hc
  · cases hc
  split at hc
  · rename_i f hcc
    split at hc
    · rename_i fid first cap hf
      have e1 : (⟨first.toList ++ (c.args.toList.map (⟨t.arr, []⟩ : Act).eval ++ cap.toList)⟩ : Array Value) = first ++ c.args.map (⟨t.arr, []⟩ : Act).eval ++ cap := by
        apply Array.toList_inj.1; simp
      rw [e1] at hc
      exact opSat_call ho hok hcc hf (hk _ _ _ hc)
    · cases hc
  · rename_i b hcc
    split at hc
    · rename_i v hv
      cases hc
      exact opSat_builtin ho hok hcc (by simpa using hv)
    · cases hc
  · cases hc
theorem opT_sound (hs : Sound P e) {o : Oper} {t : FT} {r : VR} (hc : (opT E e g o t h nx).run = some r) : OpSat P o g t.arr h nx r := by
  unfold opT at hc
  split at hc
  · rename_i c ho
    exact callK_sound (callOf_eq ho) (fun f args r h => callF_sound hs h) hc
  · exact opSat_aop hc
theorem yielded_ren (ρ : Nat → Nat) (ops : Array Oper) (t : Array Value) (j : Nat) : yielded ops (t.map (ren ρ)) j = yielded ops t j := by
  unfold yielded
  cases hd : (ops[j]?).bind (·.dst) with
  | none => rfl
  | some d =>
    simp only [Option.bind_some, Array.getElem?_map]
    cases t[d]? with
    | none => rfl
    | some v =>
      simp only [Option.map_some]
      cases v with
      | pointer a => cases a <;> rfl
      | slice a l c => cases a <;> rfl
      | map a => cases a <;> rfl
      | chan a => cases a <;> rfl
      | agg cs => rw [ren_agg]
      | tuple cs => rw [ren_tuple]
      | func fn f c => rw [ren_func]
      | _ => rfl
theorem wantedA_eq (ρ : Nat → Nat) (ops : Array Oper) (o : Oper) (t : Array Value) : Region.wanted o (yielded ops (actOf ρ t).tmps) = wantedA ops o t := by
  unfold Region.wanted wantedA
  cases o.guard with
  | none => rfl
  | some jw =>
    obtain ⟨j, want⟩ := jw
    simp only [actOf, yielded_ren]
    cases yielded ops t j with
    | none => rfl
    | some b => cases b <;> cases want <;> rfl
theorem letsOut_mono {Q Q' : Exit → Act → World → Prop} (hq : ∀ e a w, Q e a w → Q' e a w) (h : LetsOut Q) : LetsOut Q' := by
  obtain ⟨a, w, h⟩ := h; exact ⟨a, w, hq _ _ _ h⟩
theorem oper_wp_mono {o : Oper} {a : Act} {w : World} {K K' : Act → World → Prop} {Q Q' : Exit → Act → World → Prop} (hk : ∀ a w, K a w → K' a w) (hq : ∀ e a w, Q e a w → Q' e a w)
    (hh : o.wp P a w K Q) : o.wp P a w K' Q' := by
  unfold Oper.wp at *
  generalize (execOp a.eval o).run P w = r at *
  cases r with
  | ok n w' =>
    cases n <;> simp only [Oper.upon] at hh ⊢ <;>
      first
        | exact hk _ _ hh
        | exact Calls.mono hh (fun e w'' he => by cases e <;> first | exact hk _ _ he | exact hq _ _ _ he | exact letsOut_mono hq he)
        | exact Rows.mono hh (fun _ _ he => hk _ _ he)
  | halt x w' => cases x <;> simp only [Oper.upon] at hh ⊢ <;> first | exact hq _ _ _ hh | exact hh
theorem wpList_mono {ops : Array Oper} {Q Q' : Exit → Act → World → Prop} (hq : ∀ e a w, Q e a w → Q' e a w) : ∀ (l : List Oper) (a : Act) (w : World), wpList P ops Q l a w → wpList P ops Q' l a w
  | [], a, w, h => hq _ _ _ h
  | o :: r, a, w, h => by
    unfold wpList at h ⊢
    split at h
    · rename_i hw
      rw [if_pos hw]
      rcases h with h | ⟨h1, h2⟩
      · exact .inl (oper_wp_mono (wpList_mono hq r) hq h)
      · exact .inr ⟨h1, letsOut_mono hq h2⟩
    · rename_i hw
      rw [if_neg hw]; exact wpList_mono hq r _ _ h
theorem wantedA_none {ops : Array Oper} {o : Oper} {t : Array Value} (h : o.guard = none) : wantedA ops o t = true := by
  unfold wantedA; rw [h]
theorem seqT_sound (hs : Sound P e) (ops : List Oper) : ∀ (l : List Oper) (t : FT) (h : AHeap) (nx : Nat) (st' : St), (seqT E e g ops l t h nx).run = some st' →
    ∀ ρ w, Rel ρ g h nx w → SWf t.arr nx → wpList P ops.toArray (Post g .normal st' ρ h nx w) l (actOf ρ t.arr) w
  | [], t, h, nx, st', hc, ρ, w, R, ht => by
    cases hc
    exact wpList_nil ⟨rfl, ρ, rfl, ht, R, R.step⟩
  | o :: r, t, h, nx, st', hc, ρ, w, R, ht => by
    have mono : ∀ {ρ' : Nat → Nat} {h' : AHeap} {nx' : Nat} {w' : World}, Step ρ h nx w ρ' h' nx' w' → ∀ a u, wpList P ops.toArray (Post g .normal st' ρ' h' nx' w') r a u → wpList P ops.toArray (Post g .normal st' ρ h nx w) r a u := by
      intro ρ' h' nx' w' S a u hu
      refine wpList_mono (fun x a u => ?_) r a u hu
      rintro ⟨e0, ρ2, e1, e2, e3, e4⟩
      exact ⟨e0, ρ2, e1, e2, e3, S.trans e4⟩
    have hsplit : (wantedA ops.toArray o t.arr = true ∧ ((opT E e g o t h nx).bind fun x => seqT E e g ops r (putF t o.dst x.v) x.h x.nx).run = some st') ∨ (wantedA ops.toArray o t.arr = false ∧ (seqT E e g ops r (putF t o.dst undef) h nx).run = some st') := by
      change (seqOne E e g ops o t h nx (seqT E e g ops r)).run = some st' at hc
      unfold seqOne seqGo at hc
      simp only [putFK_eq, wantedF_eq] at hc
      split at hc
      · rename_i hg; exact .inl ⟨wantedA_none hg, hc⟩
      · exact run_brF hc
    refine wpList_step fun K' hK' => ?_
    rw [wantedA_eq]
    rcases hsplit with ⟨hw, hc⟩ | ⟨hw, hc⟩
    · rw [hw, if_pos rfl]
      obtain ⟨q, hq, hc⟩ := Tree.run_bind_out hc
      refine opT_sound hs hq ρ w R (fun x _ hx => eval_bel R ht hx) _ _ _ (fun _ _ => rfl) ?_
      intro ρ' w' hb R' S
      refine hK' _ _ (mono S _ _ ?_)
      have := seqT_sound hs ops r _ _ _ st' hc ρ' w' R' (by rw [putF_arr]; exact (ht.mono S.le).put hb)
      rw [putF_arr, ← actOf_put, actOf_agree ht S.agree] at this
      exact this
    · rw [hw, if_neg (by simp)]
      refine hK' _ _ ?_
      have := seqT_sound hs ops r _ _ _ st' hc ρ w R (by rw [putF_arr]; exact ht.put (bel_undef _))
      rw [putF_arr, ← actOf_put, ren_undef] at this
      exact this
end
end
end Go.Den
