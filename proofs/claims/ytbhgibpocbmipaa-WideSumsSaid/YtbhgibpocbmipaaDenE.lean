/-
  Each operation that is read comes to what is read, in every world.
-/
import Derived.Test.YtbhgibpocbmipaaDenD
namespace Go.Den
open Go.RowKit
noncomputable section

section
variable {P : Program} {so : TypeId → Bool} {ρ : Nat → Nat} {g h : AHeap} {nx : Nat} {w : World}
theorem run_zero {T : TypeId} {z : Value} (hz : (P.info? T).bind (·.zero) = some z) (w : World) : (zeroValue T).run P w = .ok z w := by
  cases hi : P.info? T with
  | none => rw [hi] at hz; cases hz
  | some it => rw [hi] at hz; simp only [Option.bind_some] at hz; simp [zeroValue, typeInfo, hi, hz]
theorem OpOk.alloc (R : Rel ρ g h nx w) {m : Sem Next} {cs : Array Value} {T : TypeId} (hb : ∀ v ∈ cs, bel nx v = true)
    (hm : m.run P w = .ok (.value (.pointer (some ⟨w.heap.size, 0, none⟩))) (w.alloc (.cells (cs.map (ren ρ)) T))) :
    OpOk P m ρ g h nx w ⟨true, ptr nx, h.set nx ⟨cs, T, none⟩, nx + 1⟩ := by
  obtain ⟨h1, h2⟩ := R.alloc cs T hb
  refine ⟨_, _, .inl ?_, h1, h2, ?_⟩
  · rw [hm]; simp [ptr, ren, upd_same]
  · simp [ptr, bel]
theorem pickV_ren (t : Bool) (x y : Value) : ren ρ (pickV t x y) = if t then ren ρ x else ren ρ y := by
  unfold pickV
  split
  · cases t <;> rfl
  · cases t <;> rfl
theorem pickV_bel {n : Nat} (t : Bool) {x y : Value} (hx : bel n x = true) (hy : bel n y = true) : bel n (pickV t x y) = true := by
  unfold pickV
  split
  · rfl
  · cases t <;> assumption
theorem add_ren (a : Addr) (n : Nat) : ({ a with block := ρ a.block } : Addr).add n = { a.add n with block := ρ (a.add n).block } := by
  unfold Addr.add; split <;> rfl
theorem add_block (a : Addr) (n : Nat) : (a.add n).block = a.block := by unfold Addr.add; split <;> rfl

theorem repA_zero (l : List Value) : repA 0 l = [] := rfl
theorem repA_succ (n : Nat) (l : List Value) : repA (n + 1) l = l ++ repA n l := rfl
theorem repA_get {l : List Value} (hl : 0 < l.length) : ∀ (k i : Nat), i < k * l.length → (repA k l)[i]? = l[i % l.length]?
  | 0, i, h => by omega
  | k + 1, i, h => by
    rw [repA_succ]
    by_cases hi : i < l.length
    · rw [List.getElem?_append_left hi, Nat.mod_eq_of_lt hi]
    · rw [List.getElem?_append_right (by omega), repA_get hl k (i - l.length) (by rw [Nat.succ_mul] at h; omega), ← Nat.mod_eq_sub_mod (by omega)]
theorem repA_length (l : List Value) : ∀ k, (repA k l).length = k * l.length
  | 0 => by simp [repA_zero]
  | k + 1 => by rw [repA_succ, List.length_append, repA_length l k, Nat.succ_mul, Nat.add_comm]
theorem repA_bel {l : List Value} {n : Nat} (hl : ∀ x ∈ l, bel n x = true) : ∀ k, ∀ x ∈ repA k l, bel n x = true
  | 0, x, h => by simp [repA_zero] at h
  | k + 1, x, h => by
    rw [repA_succ, List.mem_append] at h
    rcases h with h | h
    · exact hl x h
    · exact repA_bel hl k x h
theorem run_rowA {elem : TypeId} {len n : Nat} {l : List Value} (hr : rowA P elem len n = some l) (w : World) :
    (∀ x ∈ l, bel B0 x = true) ∧ ∃ z : Array Value, (if len * n = 0 then pure #[] else (do pure (← zeroValue elem).cells : Sem (Array Value))).run P w = .ok z w ∧ (Array.range (len * n)).map (fun i => z[i % z.size]!) = ⟨l⟩ := by
  unfold rowA at hr
  cases h0 : Nat.beq (len * n) 0 <;> simp only [h0, cond_true, cond_false] at hr
  · have h0' : len * n ≠ 0 := by intro h; rw [h] at h0; cases h0
    split at hr
    · rename_i z hz
      cases hc : (bel B0 z && Nat.beq z.cells.size n) <;> simp only [hc, cond_true, cond_false] at hr
      · cases hr
      · cases hr
        rw [Bool.and_eq_true, Nat.beq_eq] at hc
        refine ⟨repA_bel (fun x hx => bel_cells hc.1 x (by simpa using hx)) _, z.cells, ?_, ?_⟩
        · rw [if_neg h0', Sem.run_bind, run_zero hz]; rfl
        · have hn : 0 < n := Nat.pos_of_ne_zero (by intro h; rw [h] at h0'; simp at h0')
          have hlen : z.cells.toList.length = n := by rw [Array.length_toList]; exact hc.2
          apply Array.ext'
          apply List.ext_getElem?
          intro i
          simp only [Array.toList_map, Array.toList_range, List.getElem?_map]
          by_cases hi : i < len * n
          · rw [repA_get (by omega) len i (by rw [hlen]; exact hi), List.getElem?_range hi, hlen, hc.2]
            have hm : i % n < z.cells.size := by rw [hc.2]; exact Nat.mod_lt _ hn
            simp [hm]
          · rw [List.getElem?_eq_none (by simp; omega), List.getElem?_eq_none (by rw [repA_length, hlen]; omega)]; rfl
    · cases hr
  · cases hr
    rw [Nat.beq_eq] at h0
    refine ⟨fun x hx => by simp at hx, #[], ?_, ?_⟩
    · rw [if_pos h0]; rfl
    · rw [h0]; simp
theorem run_bound {k : IntKind} {i : Int} {y : Nat} {code : BoundsCode} (h0 : 0 ≤ i) (h1 : i ≤ y) (w : World) : (Instr.sliceBound (.int k i) y code).run P w = .ok i.toNat w := by
  simp [Instr.sliceBound, asIntOf, h0, h1]
theorem run_cutsA (b : Bool) {len cap l e m : Nat} {lo hi mx : Option Value} {ok : Bool} (h : cutsA len cap lo hi mx = some (ok, l, e, m)) (hok : ok = true) (w : World) :
    (Instr.sliceBounds b len cap lo hi mx).run P w = .ok (l, e, m) w := by
  unfold cutsA at h
  split at h
  · rename_i mi m' hm
    split at h
    · rename_i hi' h' hh
      split at h
      · rename_i li l' hl
        cases hg : (mx.isSome && hi.isNone) <;> simp only [hg, cond_true, cond_false] at h
        · cases h
          rw [Bool.and_eq_true, Bool.and_eq_true] at hok
          obtain ⟨o1, o2, o3⟩ := hok
          cases mx with
          | none =>
            cases hm
            cases hi with
            | none =>
              cases hh
              cases lo with
              | none => cases hl; simp [Instr.sliceBounds]
              | some v =>
                cases v <;> simp only [endA] at hl <;> cases hl
                simp only [Option.isSome, cond_true, Bool.and_eq_true, decide_eq_true_eq] at o3
                simp [Instr.sliceBounds, run_bound o3.1 o3.2]
            | some u =>
              cases u <;> simp only [endA] at hh <;> cases hh
              simp only [Option.isSome, cond_true, Bool.and_eq_true, decide_eq_true_eq] at o2
              cases lo with
              | none => cases hl; simp [Instr.sliceBounds, run_bound o2.1 o2.2]
              | some v =>
                cases v <;> simp only [endA] at hl <;> cases hl
                simp only [Option.isSome, cond_true, Bool.and_eq_true, decide_eq_true_eq] at o3
                simp [Instr.sliceBounds, run_bound o2.1 o2.2, run_bound o3.1 o3.2]
          | some x =>
            cases x <;> simp only [endA] at hm <;> cases hm
            simp only [Option.isSome, cond_true, Bool.and_eq_true, decide_eq_true_eq] at o1
            cases hi with
            | none => cases hg
            | some u =>
              cases u <;> simp only [endA] at hh <;> cases hh
              simp only [Option.isSome, cond_true, Bool.and_eq_true, decide_eq_true_eq] at o2
              cases lo with
              | none => cases hl; simp [Instr.sliceBounds, run_bound o1.1 o1.2, run_bound o2.1 o2.2]
              | some v =>
                cases v <;> simp only [endA] at hl <;> cases hl
                simp only [Option.isSome, cond_true, Bool.and_eq_true, decide_eq_true_eq] at o3
                simp [Instr.sliceBounds, run_bound o1.1 o1.2, run_bound o2.1 o2.2, run_bound o3.1 o3.2]
        · cases h
      · cases h
    · cases h
  · cases h
theorem endA_ren {x : Option Value} {d : Nat} {q : Int × Nat} (h : endA x d = some q) : x.map (ren ρ) = x := by
  cases x with
  | none => rfl
  | some v => cases v <;> simp only [endA] at h <;> first | (cases h; done) | rfl
theorem cutsA_ren {len cap : Nat} {lo hi mx : Option Value} {q : Bool × Nat × Nat × Nat} (h : cutsA len cap lo hi mx = some q) : lo.map (ren ρ) = lo ∧ hi.map (ren ρ) = hi ∧ mx.map (ren ρ) = mx := by
  unfold cutsA at h
  split at h
  · rename_i mi m' hm
    split at h
    · rename_i hi' h' hh
      split at h
      · rename_i li l' hl
        exact ⟨endA_ren hl, endA_ren hh, endA_ren hm⟩
      · cases h
    · cases h
  · cases h
theorem map_ren_opt {c e : Operand → Value} : ∀ {x : Option Operand}, (∀ y, x = some y → c y = ren ρ (e y)) → x.map c = (x.map e).map (ren ρ)
  | none, _ => rfl
  | some y, h => by simp [h y rfl]
set_option maxHeartbeats 1000000 in
theorem aop_sound (hso : ∀ t, so t = true → P.stoodInHeld t = false ∧ P.eqGuardType P.depth t = false) {o : Oper} {e c : Operand → Value} {r : ARes} (hr : aop P so g o e h nx = some r) (hok : r.ok = true)
    (R : Rel ρ g h nx w) (hcb : ∀ x ∈ o.op.operands, opndOk x = true → c x = ren ρ (e x) ∧ bel nx (e x) = true) : OpOk P (execOp c o) ρ g h nx w r := by
  obtain ⟨dst, op, type, pos, after, guard⟩ := o
  unfold aop hdl at hr
  simp only at hr
  unfold hdlD at hr
  cases hall : op.operands.toList.all opndOk <;> simp only [hall, cond_true, cond_false] at hr
  · cases hr
  replace hall : ∀ x ∈ op.operands, c x = ren ρ (e x) ∧ bel nx (e x) = true := fun x hx => hcb x hx ((List.all_eq_true.1 hall) x (by simpa using hx))
  clear hcb
  cases op <;> simp only [Op.operands] at hall <;> simp only [retA, retO, pickA, allocA, loadA, storeA, nilA, unA, convA, ifaceA, fieldAddrA, fieldA, indexAddrA, indexA, extractA, buildSliceA, sliceA] at hr <;> try (cases hr; done)
  case move x =>
    cases hr
    have hx := hall x (by simp)
    exact .pure R (by simp [execOp, hx.1]) (hx.2)
  case assign x =>
    cases hr
    have hx := hall x (by simp)
    exact .pure R (by simp [execOp, hx.1]) (hx.2)
  case pick x y z =>
    have hx := hall x (by simp); have hy := hall y (by simp); have hz := hall z (by simp)
    split at hr
    · rename_i t ht
      cases hr
      refine .pure R ?_ (pickV_bel t hy.2 hz.2)
      simp only [execOp, hx.1, ht, ren, hy.1, hz.1, pickV_ren]
      simp [asBool]
    · cases hr
  case alloc T =>
    split at hr
    · rename_i z hz
      cases hzl : bel B0 z <;> simp only [hzl, cond_true, cond_false] at hr
      · cases hr
      · cases hr
        refine .alloc R (fun v hv => bel_low R (bel_cells hzl v hv)) ?_
        rw [map_low R (bel_cells hzl)]
        simp [execOp, Instr.alloc, run_zero hz, newVar, newRow]
    · cases hr
  case box T x =>
    cases hr
    have hx := hall x (by simp)
    refine .alloc R (bel_cells hx.2) ?_
    simp [execOp, Instr.box, hx.1, ren_cells, newVar, newRow]
  case build t parts =>
    cases hbd : buildA P t (parts.toList.map fun p => (p.1, e p.2)) with
    | none => rw [hbd] at hr; cases hr
    | some v =>
      rw [hbd] at hr; cases hr
      have hmem : ∀ p ∈ parts.toList, c p.2 = ren ρ (e p.2) ∧ bel nx (e p.2) = true := fun p hp => hall p.2 (by simpa using ⟨p.1, by simpa using hp⟩)
      obtain ⟨h1, h2⟩ := run_buildA R hbd (fun q hq => by
        obtain ⟨p, hp, rfl⟩ := List.mem_map.1 hq
        exact (hmem p hp).2)
      refine .pure R ?_ h2
      have he : (parts.map fun (i, x) => (i, c x)) = ((parts.toList.map fun p => (p.1, e p.2)).map fun p => (p.1, ren ρ p.2)).toArray := by
        apply Array.toList_inj.1
        simp only [Array.toList_map, List.map_map]
        refine List.map_congr_left fun p hp => ?_
        simp [(hmem p hp).1]
      simp only [execOp, he, Sem.run_bind, h1, Result.andThen_ok, Sem.run_pure]
  case buildSlice t len parts =>
    split at hr
    · rename_i elem hu
      split at hr
      · rename_i n hn
        cases hc : (Nat.ble (len * n) 16777216 && Nat.blt len B0) <;> simp only [hc, cond_true, cond_false] at hr
        · cases hr
        · rw [Bool.and_eq_true, Nat.ble_eq, blt_iff] at hc
          split at hr
          · rename_i l hl
            cases hf : fillF (fun i => some (i * n, n)) l (parts.toList.map fun p => (p.1, e p.2)) with
            | none => rw [hf] at hr; cases hr
            | some cs =>
              rw [hf] at hr; cases hr
              have hmem : ∀ p ∈ parts.toList, c p.2 = ren ρ (e p.2) ∧ bel nx (e p.2) = true := fun p hp => hall p.2 (by simpa using ⟨p.1, by simpa using hp⟩)
              obtain ⟨hb, z, hz, hzl⟩ := run_rowA hl w
              have hF := fillF_eq _ _ _ _ hf
              have hbel := fill_bel (n := nx) _ _ _ _ hF (fun x hx => bel_low R (hb x (by simpa using hx))) (fun p hp => by
                obtain ⟨q, hq, rfl⟩ := List.mem_map.1 hp
                exact (hmem q hq).2)
              have hR := fill_ren (ρ := ρ) _ _ _ _ hF
              rw [map_low R (cs := ⟨l⟩) (fun v hv => hb v (by simpa using hv))] at hR
              obtain ⟨h1, h2⟩ := R.alloc ⟨cs⟩ elem hbel
              have he : (parts.map fun (i, x) => (i, c x)).toList = (parts.toList.map fun p => (p.1, e p.2)).map fun p => (p.1, ren ρ p.2) := by
                simp only [Array.toList_map, List.map_map]
                refine List.map_congr_left fun p hp => ?_
                simp [(hmem p hp).1]
              refine ⟨_, _, .inl ?_, h1, h2, ?_⟩
              · have hlen : upd ρ nx w.heap.size len = len := by
                  have := R.base
                  simp only [upd]
                  rw [if_neg (by omega)]
                  exact R.low len hc.2
                simp only [execOp, Instr.buildSlice, Sem.run_bind, run_underlying hu, Result.andThen_ok, run_sizeO hn, he]
                rw [if_neg (by omega)]
                by_cases h0 : len * n = 0
                · rw [if_pos h0] at hz
                  rw [if_pos h0]
                  simp only [Sem.run_bind, hz, Result.andThen_ok, hzl, hR]
                  simp [newRow, ren, upd_same, hlen]
                · rw [if_neg h0] at hz
                  rw [if_neg h0]
                  simp only [Sem.run_bind] at hz ⊢
                  cases hzv : (zeroValue elem).run P w with
                  | ok zv w1 =>
                    rw [hzv] at hz
                    simp only [Result.andThen_ok, Sem.run_pure] at hz ⊢
                    cases hz
                    rw [hzl, hR]
                    simp [newRow, ren, upd_same, hlen]
                  | _ => rw [hzv] at hz; cases hz
              · have := R.base
                simp only [bel, Bool.and_eq_true, blt_iff]; omega
          · cases hr
      · cases hr
    · cases hr
  case slice t x lo hi mx =>
    have hx := hall x (by simp)
    have hbx := hx.2
    have e1 : lo.map c = (lo.map e).map (ren ρ) := map_ren_opt fun y hy => (hall y (by simp [hy])).1
    have e2 : hi.map c = (hi.map e).map (ren ρ) := map_ren_opt fun y hy => (hall y (by simp [hy])).1
    have e3 : mx.map c = (mx.map e).map (ren ρ) := map_ren_opt fun y hy => (hall y (by simp [hy])).1
    split at hr
    · rename_i s hu ha
      cases hm : (mx.map e).isSome <;> simp only [hm, cond_true, cond_false] at hr
      · split at hr
        · rename_i ok l e' m' hcut
          cases hr
          have hmx : mx.map e = none := by cases hq : mx.map e <;> simp_all
          obtain ⟨r1, r2, _⟩ := cutsA_ren (ρ := ρ) hcut
          rw [r1] at e1; rw [r2] at e2; rw [hmx] at e3
          refine .pure R ?_ rfl
          have hb' := run_cutsA (P := P) false hcut hok w
          simp only [execOp, Instr.sliceAt, Instr.slice, Sem.run_bind, run_underlying hu, Result.andThen_ok, hx.1, ha, ren, e1, e2, e3, Option.map_none, Option.isSome_none, Bool.false_eq_true, if_false, Sem.run_pure, hb']
        · cases hr
      · cases hr
    · rename_i elem a len cap hu ha
      cases hcap : Nat.blt cap B0 <;> simp only [hcap, cond_true, cond_false] at hr
      · cases hr
      · rw [blt_iff] at hcap
        split at hr
        · rename_i ok l e' m n hcut hn
          cases hr
          simp only [Bool.and_eq_true, Nat.ble_eq] at hok
          obtain ⟨r1, r2, r3⟩ := cutsA_ren (ρ := ρ) hcut
          rw [r1] at e1; rw [r2] at e2; rw [r3] at e3
          have hb' := run_cutsA (P := P) true hcut hok.1 w
          have hc1 : ρ cap = cap := R.low cap hcap
          have hc2 : ρ (m - l) = m - l := R.low _ (by omega)
          have hbase := R.base
          rw [ha] at hbx
          have hrx : ren ρ (.slice a len cap) = .slice (a.map fun a => { a with block := ρ a.block }) len cap := by cases a <;> simp [ren, hc1]
          refine .pure R ?_ ?_
          · simp only [execOp, Instr.sliceAt, Instr.slice, Sem.run_bind, run_underlying hu, Result.andThen_ok, hx.1, ha, hrx, e1, e2, e3, hb', run_sizeO hn, Sem.run_pure]
            congr 2
            cases hml : Nat.beq m l
            · have : m ≠ l := by intro h; rw [h] at hml; simp at hml
              rw [if_neg this]
              cases a <;> simp [ren, hc2, add_ren, add_block]
            · rw [Nat.beq_eq] at hml
              rw [if_pos hml]
              cases a <;> simp [ren, hc2]
          · cases hml : Nat.beq m l
            · cases a with
              | none => simp only [bel, cond_false, Option.map_none, blt_iff]; omega
              | some a => simp only [bel, cond_false, Option.map_some, Bool.and_eq_true, blt_iff, add_block] at hbx ⊢; omega
            · cases a with
              | none => simp only [bel, cond_true, blt_iff]; omega
              | some a => simp only [bel, cond_true, Bool.and_eq_true, blt_iff] at hbx ⊢; omega
        · cases hr
    · rename_i len elem a hu ha
      cases hcap : Nat.blt len B0 <;> simp only [hcap, cond_true, cond_false] at hr
      · cases hr
      · rw [blt_iff] at hcap
        split at hr
        · rename_i ok l e' m n hcut hn
          cases hr
          simp only [Bool.and_eq_true, Nat.ble_eq] at hok
          obtain ⟨r1, r2, r3⟩ := cutsA_ren (ρ := ρ) hcut
          rw [r1] at e1; rw [r2] at e2; rw [r3] at e3
          have hb' := run_cutsA (P := P) false hcut hok.1 w
          have hc2 : ρ (m - l) = m - l := R.low _ (by omega)
          have hbase := R.base
          rw [ha] at hbx
          refine .pure R ?_ ?_
          · simp only [execOp, Instr.sliceAt, Sem.run_bind, run_underlying hu, Result.andThen_ok, hx.1, ha, ren, Instr.sureAddr, e1, e2, e3, hb', run_sizeO hn, Sem.run_pure]
            congr 2
            cases hml : Nat.beq m l
            · have : m ≠ l := by intro h; rw [h] at hml; simp at hml
              rw [if_neg this]
              simp [hc2, add_ren, add_block]
            · rw [Nat.beq_eq] at hml
              rw [if_pos hml]
              simp [hc2]
          · simp only [bel, blt_iff] at hbx
            cases hml : Nat.beq m l
            · simp only [bel, cond_false, Bool.and_eq_true, blt_iff, add_block]; omega
            · simp only [bel, cond_true, Bool.and_eq_true, blt_iff]; omega
        · cases hr
    · cases hr
  case load t x =>
    have hx := hall x (by simp)
    split at hr
    · rename_i a ha
      cases hl : aload P g h t a with
      | none => rw [hl] at hr; cases hr
      | some v =>
        rw [hl] at hr; cases hr
        obtain ⟨h1, h2⟩ := run_aload R hl
        refine .pure R ?_ h2
        simp [execOp, hx.1, ha, ren, Instr.loadAt, Instr.sureAddr, h1]
    · cases hr
  case store t x y =>
    have hx := hall x (by simp); have hy := hall y (by simp)
    split at hr
    · rename_i a ha
      cases hl : astore P h t a (e y) with
      | none => rw [hl] at hr; cases hr
      | some h' =>
        rw [hl] at hr; cases hr
        obtain ⟨w', h1, h2, h3⟩ := run_astore R hl (hy.2)
        refine ⟨ρ, w', .inr ⟨?_, rfl⟩, h2, h3, bel_undef _⟩
        simp [execOp, hx.1, hy.1, ha, ren, Instr.storeAt, Instr.sureAddr, h1]
    · cases hr
  case nilCheck x =>
    have hx := hall x (by simp)
    have hbx := hx.2
    split at hr
    · rename_i a ha
      cases hr
      rw [ha] at hbx
      exact .pure R (by simp [execOp, hx.1, ha, ren]) hbx
    · rename_i f a b ha
      cases hr
      rw [ha] at hbx
      exact .pure R (by simp [execOp, hx.1, ha, ren_func]) hbx
    · rename_i t v ha
      cases hr
      rw [ha] at hbx
      exact .pure R (by simp [execOp, hx.1, ha, ren]) hbx
    · cases hr
  case binOp op t x y yt =>
    have hx := hall x (by simp); have hy := hall y (by simp)
    cases hbn : binA P so op t (e x) (e y) with
    | none => rw [hbn] at hr; cases hr
    | some q =>
      rw [hbn] at hr; cases hr
      obtain ⟨h1, h2, h3⟩ := run_binA (ρ := ρ) hso (x := x) (y := y) hbn hok w
      refine .pure R ?_ (h3 _)
      rw [h2 ρ]
      simp only [execOp, hx.1, hy.1]
      rw [Sem.run_bind, h1]; rfl
  case unOp op t x =>
    have hx := hall x (by simp)
    split at hr
    · rename_i k n ha
      cases hr
      exact .pure R (by simp [execOp, hx.1, ha, ren, Op.unary, Op.intArith]) rfl
    · rename_i k n ha
      cases hr
      exact .pure R (by simp only [execOp, hx.1, ha, ren, Op.unary, Op.intBits]; rfl) rfl
    · rename_i b ha
      cases hr
      exact .pure R (by simp [execOp, hx.1, ha, ren, Op.unary]) rfl
    · cases hr
  case convert s d x =>
    have hx := hall x (by simp)
    split at hr
    · rename_i ds k k' n hs hd ha
      cases hr
      exact .pure R (by simp [execOp, hx.1, ha, ren, convert, run_underlying hs, run_underlying hd, Conv.intToInt]) rfl
    · rename_i ds q hs hd ha
      cases hr
      exact .pure R (by simp [execOp, hx.1, ha, ren, convert, run_underlying hs, run_underlying hd]) rfl
    · cases hr
  case makeFunc fn f cc =>
    cases hr
    have hf : ∀ x ∈ f, c x = ren ρ (e x) ∧ bel nx (e x) = true := fun x hx => hall x (by simp [hx])
    have hcc : ∀ x ∈ cc, c x = ren ρ (e x) ∧ bel nx (e x) = true := fun x hx => hall x (by simp [hx])
    have e1 : (⟨f.toList.map e⟩ : Array Value) = f.map e := by cases f; simp
    have e2 : (⟨cc.toList.map e⟩ : Array Value) = cc.map e := by cases cc; simp
    rw [e1, e2]
    refine .pure R ?_ (bel_func.2 ⟨fun v hv => ?_, fun v hv => ?_⟩)
    · simp only [execOp, Instr.makeFunc, ren_func, Array.map_map]
      rw [Array.map_congr_left (xs := f) (f := c) (g := ren ρ ∘ e) fun x hx => (hf x hx).1, Array.map_congr_left (xs := cc) (f := c) (g := ren ρ ∘ e) fun x hx => (hcc x hx).1]
      rfl
    · obtain ⟨x, hx, rfl⟩ := Array.mem_map.1 hv; exact (hf x hx).2
    · obtain ⟨x, hx, rfl⟩ := Array.mem_map.1 hv; exact (hcc x hx).2
  case makeInterface t x =>
    have hx := hall x (by simp)
    split at hr
    · cases hr
    · rename_i d hn hu
      cases hr
      refine .pure R ?_ (by simpa [bel] using hx.2)
      simp only [execOp, Instr.makeInterface, hx.1, ren]
      rw [Sem.run_bind, Sem.run_bind, run_underlying hu]
      cases d <;> first | rfl | (exact (hn _ rfl).elim)
    · cases hr
  case fieldAddr s x f =>
    have hx := hall x (by simp)
    have hbx := hx.2
    split at hr
    · rename_i fields a hu ha
      split at hr
      · rename_i F hF
        replace hF : fields[f]? = some F := by simpa using hF
        split at hr
        · rename_i n hn
          cases hr
          rw [ha] at hbx
          refine .pure R ?_ (by simp only [bel, blt_iff, add_block] at hbx ⊢; exact hbx)
          simp [execOp, Instr.fieldAt, hx.1, ha, ren, run_underlying hu, hF, Instr.sureAddr, fieldPlace, run_sizeO hn, add_ren]
        · cases hr
      · cases hr
    · cases hr
  case field t x f =>
    have hx := hall x (by simp)
    have hbx := hx.2
    split at hr
    · rename_i fields cs hu ha
      split at hr
      · rename_i F hF
        replace hF : fields[f]? = some F := by simpa using hF
        cases hp : partA P F.type cs F.offset with
        | none => rw [hp] at hr; cases hr
        | some v =>
          rw [hp] at hr; cases hr
          rw [ha, bel_agg] at hbx
          refine .pure R ?_ (partA_bel hp hbx)
          simp [execOp, Instr.field, hx.1, ha, ren_agg, run_underlying hu, hF, asAgg, run_partA (partA_ren hp)]
      · cases hr
    · cases hr
  case indexAddr t x ix =>
    have hx := hall x (by simp); have hix := hall ix (by simp)
    have hbx := hx.2
    split at hr
    · rename_i len elem a k i hu ha hi
      split at hr
      · rename_i n hn
        cases hr
        rw [ha] at hbx
        have hlt : 0 ≤ i ∧ i < (len : Int) := by simpa using hok
        refine .pure R ?_ (by simp only [bel, blt_iff, add_block] at hbx ⊢; exact hbx)
        simp [execOp, Instr.indexAt, hx.1, hix.1, ha, hi, ren, run_underlying hu, asIntOf, Instr.sureAddr, run_sizeO hn, hlt, add_ren]
      · cases hr
    · rename_i elem a len cap k i hu ha hi
      split at hr
      · rename_i n hn
        cases hr
        rw [ha] at hbx
        have hlt : 0 ≤ i ∧ i < (len : Int) := by simpa using hok
        refine .pure R ?_ (by simp only [bel, blt_iff, add_block, Bool.and_eq_true] at hbx ⊢; exact hbx.1)
        simp [execOp, Instr.indexAt, hx.1, hix.1, ha, hi, ren, run_underlying hu, asIntOf, run_sizeO hn, hlt, add_ren]
      · cases hr
    · cases hr
  case index t x ix =>
    have hx := hall x (by simp); have hix := hall ix (by simp)
    have hbx := hx.2
    split at hr
    · rename_i len elem cs k i hu ha hi
      split at hr
      · rename_i n hn
        cases hp : partA P elem cs (i.toNat * n) with
        | none => rw [hp] at hr; cases hr
        | some v =>
          rw [hp] at hr; cases hr
          rw [ha, bel_agg] at hbx
          have hlt : 0 ≤ i ∧ i < (len : Int) := by simpa using hok
          refine .pure R ?_ (partA_bel hp hbx)
          simp [execOp, Instr.index, hx.1, hix.1, ha, hi, ren_agg, ren, run_underlying hu, asIntOf, run_sizeO hn, hlt, run_partA (partA_ren hp)]
      · cases hr
    · rename_i s k i hu ha hi
      split at hr
      · rename_i b hs
        cases hr
        have h0 : 0 ≤ i := by simpa using hok
        refine .pure R ?_ rfl
        simp [execOp, Instr.index, hx.1, hix.1, ha, hi, ren, run_underlying hu, asIntOf, h0, hs]
      · cases hr
    · cases hr
  case extract x i =>
    have hx := hall x (by simp)
    have hbx := hx.2
    split at hr
    · rename_i vs ha
      rw [fget_eq] at hr
      cases hv : vs[i]? with
      | none => rw [hv] at hr; cases hr
      | some v =>
        rw [hv] at hr; cases hr
        rw [ha, bel_tuple] at hbx
        refine .pure R ?_ (hbx v (Array.mem_of_getElem? hv))
        simp [execOp, Instr.extract, hx.1, ha, ren_tuple, hv]
    · cases hr
end
end
end Go.Den
