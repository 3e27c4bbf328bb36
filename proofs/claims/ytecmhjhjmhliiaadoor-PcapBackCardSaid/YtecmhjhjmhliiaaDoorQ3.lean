/-
  Own texts, merged: DenM DenN DenX DenY DenS DenEnv DenU
-/
import Derived.Laws.Externs
import Derived.Shelf.Spec.BitsCarry
import Derived.Test.YtecmhjhjmhliiaaDoorRows
import Derived.Test.YtecmhjhjmhliiaaDoorQ2
/-
  A region that draws its order: whatever comes next, what holds goes on to hold; so the region comes to what is read.
-/
namespace Go.Den
open Go.RowKit
noncomputable section
set_option linter.unusedSectionVars false
variable [Inhabited Root] [Inhabited Names]

section
variable {P : Program} {E : Env P} {e : Ev} {g : AHeap} {ops : List Oper} {h0 : AHeap} {t0 : Array Value} {nx0 N : Nat} {rs : List DR} {ρ0 : Nat → Nat} {w0 : World} {l : Array Bool}
theorem getD_set {l : Array Bool} {i j : Nat} (hi : i < l.size) : (l.setIfInBounds i true).getD j false = (l.getD j false || Nat.beq j i) := by
  simp only [Array.getD_eq_getD_getElem?, Array.getElem?_setIfInBounds]
  by_cases h : i = j
  · subst h; simp [hi]
  · rw [if_neg h]
    cases hb : Nat.beq j i
    · simp
    · rw [Nat.beq_eq] at hb; exact absurd hb.symm h
theorem putsT_one (W : Whole E e g ops h0 t0 nx0 N rs) {i : Nat} {o : Oper} {r : DR} (ho : ops[i]? = some o) (hr : rs[i]? = some r) {L L' : Nat → Bool} (hL' : L' i = true) (hne : ∀ j, j ≠ i → L' j = L j) :
    putT (putsT L 0 ops rs t0) o.dst r.v = putsT L' 0 ops rs t0 := by
  apply Array.ext_getElem?
  intro τ
  have hdst : ∀ (k : Nat) (p : Oper), ops[k]? = some p → k ≠ i → o.dst = some τ → p.dst ≠ some τ := fun k p hp hk hd => (regOk_dst W.ok hp ho hk hd).1
  by_cases hd : o.dst = some τ
  · by_cases hsz : τ < t0.size
    · rw [putsT_self (r := r) 0 ops rs t0 i ho hr (by rw [Nat.zero_add]; exact hL') hd hsz fun k p hp hk _ => hdst k p hp hk hd, hd]
      simp only [putT, Array.getElem?_setIfInBounds, if_true]
      rw [if_pos (by rw [putsT_size]; exact hsz)]
    · have hs1 : (putT (putsT L 0 ops rs t0) o.dst r.v).size = t0.size := by rw [hd]; simp only [putT, Array.size_setIfInBounds]; exact putsT_size _ _ _ _ _
      rw [Array.getElem?_eq_none (by rw [hs1]; exact Nat.le_of_not_lt hsz), Array.getElem?_eq_none (by rw [putsT_size]; exact Nat.le_of_not_lt hsz)]
  · rw [putT_other hd]
    refine putsT_look 0 ops rs t0 t0 rfl fun j p hp hj hd2 => ?_
    rw [Nat.zero_add] at hj
    by_cases hji : j = i
    · subst hji; rw [ho] at hp; cases hp; exact hd hd2
    · exact hj (hne j hji).symm

theorem inv_step (hs : Sound P e) (W : Whole E e g ops h0 t0 nx0 N rs) (R0 : Rel ρ0 g h0 nx0 w0) (T0 : SWf t0 nx0) {Q : Exit → Act → World → Prop} {a : Act} {w : World} {i : Nat}
    (I : Inv E e g ops h0 t0 nx0 N rs ρ0 w0 l a w) (hi : i ∈ Region.ready .any ops.toArray l) : wpOp P ops.toArray Q i (Inv E e g ops h0 t0 nx0 N rs ρ0 w0 (l.setIfInBounds i true)) a w := by
  obtain ⟨o, X⟩ := nxt_of I.size I.closed hi
  have hil := (List.getElem?_eq_some_iff.1 X.ho).1
  obtain ⟨r, hr⟩ := W.lenr X.ho
  obtain ⟨ρ, rfl, R, S⟩ := I.world
  have ord := W.ord i r hr
  have hls : i < l.size := by rw [I.size]; exact hil
  have RO := W.rok i o r X.ho hr
  -- what holds of the greater set
  have hL' : (l.setIfInBounds i true).getD i false = true := by rw [getD_set hls]; simp
  have hne : ∀ j, j ≠ i → (l.setIfInBounds i true).getD j false = l.getD j false := fun j hj => by
    rw [getD_set hls]
    cases hb : Nat.beq j i
    · simp
    · rw [Nat.beq_eq] at hb; exact absurd hb hj
  have hsize' : (l.setIfInBounds i true).size = ops.length := by simp [I.size]
  have hclosed' : ∀ i' j, i' < ops.length → (l.setIfInBounds i true).getD i' false = true → dep (masksGo ops []) i' j = true → (l.setIfInBounds i true).getD j false = true := by
    intro i' j hi' hl hd
    by_cases hji : j = i
    · rw [hji]; exact hL'
    · rw [hne j hji]
      by_cases hii : i' = i
      · rw [hii] at hd; exact X.dep j hd
      · rw [hne i' hii] at hl; exact I.closed i' j hi' hl hd
  have hlt_of : ∀ j, l.getD j false = true → (hj : j < ops.length) → ∀ q, rs[j]? = some q → j ≠ i := fun j hl hj q hq => by rintro rfl; rw [X.no] at hl; cases hl
  -- names in what has been told
  have origin := W.origin R0 (L := fun j => l.getD j false) I.closed I.upd
  have hname : ∀ b B, (putsH (fun j => l.getD j false) 0 rs h0).get b = some B → b < r.n0 ∨ r.n1 ≤ b := by
    intro b B hb
    have h1 : b < nx0 ∨ ∃ (k : Nat) (q : DR), rs[k]? = some q ∧ l.getD k false = true ∧ q.n0 ≤ b ∧ b < q.n1 := by
      rcases putsH_from 0 rs h0 hb with h1 | ⟨j, q, h1, h2, h3⟩
      · exact .inl (R0.lt b B h1).2
      · rw [Nat.zero_add] at h2; exact origin j q h1 h2 b B h3
    rcases h1 with h1 | ⟨k, q, h1, h2, h3, h4⟩
    · left; omega
    · have hki : k ≠ i := by rintro rfl; rw [X.no] at h2; cases h2
      rcases Nat.lt_or_gt_of_ne hki with h5 | h5
      · left; have := ord.2.2.2 k q h5 h1; omega
      · right; have := (W.ord k q h1).2.2.2 i r h5 hr; omega
  have hunord : ∀ (j : Nat) (q : DR), rs[j]? = some q → l.getD j false = true → i < j → ApartD r q := by
    intro j q hq hl hij
    obtain ⟨p, hp⟩ := W.leno hq
    have hjl := (List.getElem?_eq_some_iff.1 hp).1
    rcases noClash_out W.nc hij hr hq with h1 | h1
    · exact absurd h1 (X.nod j hjl hl)
    · exact apartD_out h1
  have hrange : r.n0 < r.n1 → (∀ v ∈ putsT (fun j => l.getD j false) 0 ops rs t0, avoid r.n0 r.n1 v = true) ∧
      ∀ b B, (putsH (fun j => l.getD j false) 0 rs h0).get b = some B → BAvoid r.n0 r.n1 B := by
    intro hlt
    refine ⟨fun v hv => ?_, fun b B hb => ?_⟩
    · rcases putsT_from 0 ops rs t0 hv with h1 | ⟨j, q, h1, _, h2, rfl⟩
      · exact avoid_bel ord.1 v (T0 v h1)
      · rw [Nat.zero_add] at h2
        have hji : j ≠ i := by rintro rfl; rw [X.no] at h2; cases h2
        rcases Nat.lt_or_gt_of_ne hji with h5 | h5
        · exact avoid_bel (ord.2.2.2 j q h5 h1) _ (I.upd j q h1 h2).v
        · exact ((hunord j q h1 h2 h5).v hlt).1
    · rcases putsH_from 0 rs h0 hb with h1 | ⟨j, q, h1, h2, h3⟩
      · exact BAvoid.of_bel ord.1 (R0.hbel b B h1)
      · rw [Nat.zero_add] at h2
        have hji : j ≠ i := by rintro rfl; rw [X.no] at h2; cases h2
        rcases Nat.lt_or_gt_of_ne hji with h5 | h5
        · exact BAvoid.of_bel (ord.2.2.2 j q h5 h1) ((I.upd j q h1 h2).b b B h3).1
        · exact ((hunord j q h1 h2 h5).v hlt).2 b B h3
  have hwl : Region.wanted o (yielded ops.toArray (actOf ρ (putsT (fun j => l.getD j false) 0 ops rs t0)).tmps) = wantedA ops.toArray o (putsT (fun j => Nat.blt j i) 0 ops rs t0) := by
    rw [wantedA_eq]; exact (wantedA_look fun τ hτ => W.looks X hτ).symm
  unfold wpOp
  have hoA : ops.toArray[i]? = some o := by simpa using X.ho
  simp only [hoA]
  rw [hwl]
  rcases RO.how with ⟨hw, ⟨T, hT, hq⟩, hst, _⟩ | ⟨hw, hF, hU, hV, hnn⟩
  · rw [hw, if_pos rfl]
    left
    -- the known part for this operation
    have hfoot := fun {b : Nat} {B : ABlk} (hb : r.F.get b = some B) => W.foot R0 X hr I.upd hb
    have hb0 : B0 ≤ r.n0 := Nat.le_trans R0.base ord.1
    have hFg : ∀ b B, (r.F ++ g : AHeap).get b = some B → r.F.get b = some B ∨ g.get b = some B := by
      intro b B hb
      rw [AHeap.get_append] at hb
      cases hf : r.F.get b with
      | some C => rw [hf] at hb; exact .inl hb
      | none => rw [hf] at hb; exact .inr (by simpa using hb)
    have Rop : Rel ρ (bif isStore o then g else r.F ++ g) (bif isStore o then r.F else []) r.n0 w := by
      cases hso : isStore o
      · simp only [cond_false]
        refine ⟨R.low, hb0, fun b B hb => ?_, fun b B hb => ?_, fun b b' B B' hb => ?_, fun b b' B B' hb => ?_, fun b B hb => ?_, fun b B hb => ?_, fun b B hb => ?_, fun b B hb => ?_, R.held, R.fix, Nat.le_trans R0.nroot ord.1, fun b B hb => by cases hb⟩
        · rcases hFg b B hb with h1 | h1
          · exact R.hat b B (hfoot h1).1
          · exact R.gat b B h1
        · cases hb
        · cases hb
        · cases hb
        · cases hb
        · rcases hFg b B hb with h1 | h1
          · exact (hfoot h1).2.1
          · have := R0.glt b B h1; omega
        · cases hb
        · rcases hFg b B hb with h1 | h1
          · exact (hfoot h1).2.2.1
          · exact (R0.gbel b B h1).mono ord.1
      · simp only [cond_true]
        exact ⟨R.low, hb0, R.gat, fun b B hb => R.hat b B (hfoot hb).1, fun b b' B B' h1 h2 => R.inj b b' B B' (hfoot h1).1 (hfoot h2).1, fun b b' B B' h1 h2 => R.dis b b' B B' (hfoot h1).1 h2,
          fun b B hb => ⟨(hfoot hb).2.2.2, (hfoot hb).2.1⟩, fun b B hb => Nat.lt_of_lt_of_le (R0.glt b B hb) ord.1, fun b B hb => (hfoot hb).2.2.1, fun b B hb => (R0.gbel b B hb).mono ord.1, R.held, R.fix, Nat.le_trans R0.nroot ord.1, fun b B hb => R.far b B (hfoot hb).1⟩
    have hOS := opD_sound hs hq
    rw [hT] at hOS
    refine hOS ρ w Rop (fun x hx hok => W.opsBel R0 T0 X hr I.upd hx hok) _ _ _ (fun x hx => ?_) ?_
    · refine eval_look (ops := ops.toArray) (fun τ hτ => ?_) hx
      have := W.looks X hτ
      simp only [actOf, Array.getElem?_map, this]
    · intro ρ' w' hbv R' S'
      have hin : ∀ b B, (bif isStore o then r.F else ([] : AHeap)).get b = some B → isStore o = true ∧ r.F.get b = some B := by
        intro b B hb
        cases hso : isStore o
        · rw [hso] at hb; cases hb
        · rw [hso] at hb; exact ⟨rfl, hb⟩
      let ρ2 : Nat → Nat := fun b => if r.n0 ≤ b ∧ b < r.n1 then ρ' b else ρ b
      have hag : ∀ b, b < r.n1 → ρ2 b = ρ' b := fun b hb => by
        show (if r.n0 ≤ b ∧ b < r.n1 then ρ' b else ρ b) = ρ' b
        by_cases h : r.n0 ≤ b
        · rw [if_pos ⟨h, hb⟩]
        · rw [if_neg (fun h2 => h h2.1)]; exact (S'.agree b (by omega)).symm
      have hout : ∀ b, b < r.n0 ∨ r.n1 ≤ b → ρ2 b = ρ b := fun b hb => by
        show (if r.n0 ≤ b ∧ b < r.n1 then ρ' b else ρ b) = ρ b
        rw [if_neg (fun h2 => by omega)]
      have hsame : ¬ r.n0 < r.n1 → ρ2 = ρ := fun h => funext fun b => hout b (by omega)
      have hvals : ∀ v ∈ putsT (fun j => l.getD j false) 0 ops rs t0, ren ρ2 v = ren ρ v := fun v hv => by
        by_cases hlt : r.n0 < r.n1
        · exact ren_avoid hout v ((hrange hlt).1 v hv)
        · rw [hsame hlt]
      have hblk : ∀ b B c u, (putsH (fun j => l.getD j false) 0 rs h0).get b = some B → BlkAt ρ u c B → BlkAt ρ2 u c B := fun b B c u hb hB => by
        by_cases hlt : r.n0 < r.n1
        · exact hB.avoid hout ((hrange hlt).2 b B hb)
        · rw [hsame hlt]; exact hB
      have hupd : UpdOk r := by
        refine ⟨hbv, fun c B hc => ⟨R'.hbel c B hc, (R'.lt c B hc).1, (R'.lt c B hc).2, ?_⟩⟩
        rcases Nat.lt_or_ge c r.n0 with h1 | h1
        · obtain ⟨C, hC⟩ := S'.old c B hc h1
          exact .inr ⟨C, (hin c C hC).2⟩
        · exact .inl h1
      have hupd' : ∀ (j : Nat) (q : DR), rs[j]? = some q → (l.setIfInBounds i true).getD j false = true → UpdOk q := by
        intro j q hjq hl
        by_cases hji : j = i
        · rw [hji, hr] at hjq; cases hjq; exact hupd
        · rw [hne j hji] at hl; exact I.upd j q hjq hl
      have key : ∀ b B, (putsH (fun j => (l.setIfInBounds i true).getD j false) 0 rs h0).get b = some B → r.upd.get b = some B ∨ (r.upd.get b = none ∧ (putsH (fun j => l.getD j false) 0 rs h0).get b = some B) := by
        intro b B hb
        cases hu : r.upd.get b with
        | none =>
          refine .inr ⟨rfl, ?_⟩
          rw [← hb]
          refine putsH_look 0 rs h0 h0 rfl fun j q hjq hj => ?_
          rw [Nat.zero_add] at hj
          by_cases hji : j = i
          · rw [hji, hr] at hjq; cases hjq; exact hu
          · exact absurd (hne j hji).symm hj
        | some C =>
          left
          rw [← hb]
          refine (putsH_self 0 rs h0 i hr (by rw [Nat.zero_add]; exact hL') hu fun k q hq hik hk => ?_).symm
          rw [Nat.zero_add, hne k (by omega)] at hk
          obtain ⟨p, hp⟩ := W.leno hq
          have hkl := (List.getElem?_eq_some_iff.1 hp).1
          exact W.apartU hr hq (by omega) (fun hd => by have := dep_lt hil hd; omega) (X.nod k hkl hk) hupd (I.upd k q hq hk) b C hu
      have hF : ∀ b B, r.F.get b = some B → (putsH (fun j => l.getD j false) 0 rs h0).get b = some B := fun b B hb => (hfoot hb).1
      -- an old block that is not written stands where it stood
      have hstay : ∀ b B, r.upd.get b = none → (putsH (fun j => l.getD j false) 0 rs h0).get b = some B → w'.heap[ρ b]? = w.heap[ρ b]? := by
        intro b B hu hb
        refine S'.keep (ρ b) (R.hat b B hb).lt fun c C hc he => ?_
        obtain ⟨hso, hC⟩ := hin c C hc
        have := R.inj c b C B (hF c C hC) hb he
        subst this
        have := hst hso c C hC
        rw [hu] at this; cases this
      have hgstay : ∀ b B, g.get b = some B → w'.heap[ρ b]? = w.heap[ρ b]? := by
        intro b B hb
        refine S'.keep (ρ b) (R.gat b B hb).lt fun c C hc he => ?_
        obtain ⟨hso, hC⟩ := hin c C hc
        exact R.dis c b C B (hF c C hC) hb he
      have hg2 : ∀ b B, g.get b = some B → ρ2 b = ρ b := fun b B hb => hout b (.inl (by have := R0.glt b B hb; omega))
      have hplace : ∀ b B, (putsH (fun j => (l.setIfInBounds i true).getD j false) 0 rs h0).get b = some B →
          (r.upd.get b = some B ∧ r.n0 ≤ b ∧ b < r.n1 ∧ ρ2 b = ρ' b ∧ w.heap.size ≤ ρ2 b) ∨ (∃ C, (putsH (fun j => l.getD j false) 0 rs h0).get b = some C ∧ ρ2 b = ρ b) := by
        intro b B hb
        rcases key b B hb with h1 | ⟨_, h1⟩
        · have hb1 := (R'.lt b B h1).2
          rcases Nat.lt_or_ge b r.n0 with h2 | h2
          · obtain ⟨C, hC⟩ := S'.old b B h1 h2
            exact .inr ⟨C, hF b C (hin b C hC).2, hout b (.inl h2)⟩
          · exact .inl ⟨h1, h2, hb1, hag b hb1, by rw [hag b hb1]; exact S'.new b B h1 h2⟩
        · exact .inr ⟨B, h1, hout b (hname b B h1)⟩
      refine ⟨hsize', hclosed', hupd', ρ2, ?_, ?_, ?_⟩
      · have e1 : ren ρ' r.v = ren ρ2 r.v := (ren_agree hag r.v hbv).symm
        have e2 : actOf ρ (putsT (fun j => l.getD j false) 0 ops rs t0) = actOf ρ2 (putsT (fun j => l.getD j false) 0 ops rs t0) := by
          unfold actOf; rw [Array.map_congr_left fun v hv => (hvals v hv).symm]
        show (actOf ρ _).put o.dst (ren ρ' r.v) = _
        rw [e1, e2, actOf_put, putsT_one W X.ho hr hL' hne]
      · refine ⟨fun b hb => ?_, R.base, fun b B hb => ?_, fun b B hb => ?_, fun b b' B B' h1 h2 he => ?_, fun b b' B B' h1 h2 => ?_, fun b B hb => ?_, R.glt, fun b B hb => ?_, R.gbel, R'.held, fun b hb => ?_, R.nroot, fun b B hb => ?_⟩
        · rw [hout b (.inl (by omega))]; exact R.low b hb
        · rw [hg2 b B hb]
          by_cases hlt : r.n0 < r.n1
          · exact ((R.gat b B hb).keep (hgstay b B hb)).avoid hout (BAvoid.of_bel ord.1 (R0.gbel b B hb))
          · rw [hsame hlt]; exact (R.gat b B hb).keep (hgstay b B hb)
        · rcases key b B hb with h1 | ⟨hu, h1⟩
          · have hb1 := (R'.lt b B h1).2
            rw [hag b hb1]; exact (R'.hat b B h1).agree hag (R'.hbel b B h1)
          · rw [hout b (hname b B h1)]
            exact hblk b B _ _ h1 ((R.hat b B h1).keep (hstay b B hu h1))
        · rcases hplace b B h1 with ⟨k1, k2, k3, k4, k5⟩ | ⟨C, k1, k2⟩ <;> rcases hplace b' B' h2 with ⟨m1, m2, m3, m4, m5⟩ | ⟨D, m1, m2⟩
          · rw [k4, m4] at he; exact R'.inj b b' B B' k1 m1 he
          · rw [m2] at he; have := (R.hat b' D m1).lt; omega
          · rw [k2] at he; have := (R.hat b C k1).lt; omega
          · rw [k2, m2] at he; exact R.inj b b' C D k1 m1 he
        · rw [hg2 b' B' h2]
          have hlt := (R.gat b' B' h2).lt
          rcases hplace b B h1 with ⟨k1, k2, k3, k4, k5⟩ | ⟨C, k1, k2⟩
          · omega
          · rw [k2]; exact R.dis b b' C B' k1 h2
        · rcases key b B hb with h1 | ⟨_, h1⟩
          · have h2 := R'.lt b B h1; exact ⟨h2.1, Nat.lt_of_lt_of_le h2.2 ord.2.2.1⟩
          · exact R.lt b B h1
        · rcases key b B hb with h1 | ⟨_, h1⟩
          · exact (R'.hbel b B h1).mono ord.2.2.1
          · exact R.hbel b B h1
        · rw [hout b (.inl (by have := R0.nroot; omega))]; exact R.fix b hb
        · rcases hplace b B hb with ⟨k1, k2, k3, k4, k5⟩ | ⟨C, k1, k2⟩
          · exact Nat.le_trans R.held.size k5
          · rw [k2]; exact R.far b C k1
      · refine ⟨S.le, fun b hb => ?_, fun b B hb hn => ?_, fun b B hb hn => ?_, Nat.le_trans S.size S'.size, S'.os.trans S.os, S'.tape.trans S.tape, S'.output.trans S.output, fun c hc hno => ?_⟩
        · rw [hout b (.inl (by omega))]; exact S.agree b hb
        · rcases hplace b B hb with ⟨k1, k2, k3, k4, k5⟩ | ⟨C, k1, k2⟩
          · omega
          · exact S.old b C k1 hn
        · rcases hplace b B hb with ⟨k1, k2, k3, k4, k5⟩ | ⟨C, k1, k2⟩
          · have := S.size; omega
          · rw [k2]; exact S.new b C k1 hn
        · refine (S'.keep c (by have := S.size; omega) fun b B hb he => ?_).trans (S.keep c hc hno)
          have h1 := hF b B (hin b B hb).2
          by_cases hbn : b < nx0
          · obtain ⟨C, hC⟩ := S.old b B h1 hbn
            exact hno b C hC (by rw [← S.agree b hbn]; exact he)
          · have := S.new b B h1 (by omega); omega
  · rw [hw, if_neg (by simp)]
    have hupd : UpdOk r := ⟨by rw [hV]; exact bel_undef _, fun c B hc => by rw [hU] at hc; cases hc⟩
    have hupd' : ∀ (j : Nat) (q : DR), rs[j]? = some q → (l.setIfInBounds i true).getD j false = true → UpdOk q := by
      intro j q hjq hl
      by_cases hji : j = i
      · rw [hji, hr] at hjq; cases hjq; exact hupd
      · rw [hne j hji] at hl; exact I.upd j q hjq hl
    have heq : ∀ b, (putsH (fun j => (l.setIfInBounds i true).getD j false) 0 rs h0).get b = (putsH (fun j => l.getD j false) 0 rs h0).get b := by
      intro b
      refine putsH_look 0 rs h0 h0 rfl fun j q hjq hj => ?_
      rw [Nat.zero_add] at hj
      by_cases hji : j = i
      · rw [hji, hr] at hjq; cases hjq; rw [hU]; rfl
      · exact absurd (hne j hji) hj
    refine ⟨hsize', hclosed', hupd', ρ, ?_, R.sub (fun b B hb => by rw [← heq]; exact hb) (fun _ _ hb => hb), S.alike heq⟩
    have := actOf_put (ρ := ρ) (t := putsT (fun j => l.getD j false) 0 ops rs t0) (d := o.dst) (v := undef)
    rw [ren_undef] at this
    rw [this, ← hV, putsT_one W X.ho hr hL' hne]

theorem ready_done {ops : List Oper} (hok : regOk ops = true) {l : Array Bool} (hsz : l.size = ops.length) (hr : Region.ready .any ops.toArray l = []) : ∀ i, i < ops.length → l.getD i false = true := by
  intro i
  induction i using Nat.strongRecOn with
  | _ i ih =>
    intro hi
    cases hl : l.getD i false
    · exfalso
      have : i ∈ Region.ready .any ops.toArray l := by
        refine mem_ready.2 ⟨?_, ops[i], by simp [hi], fun x hx hb => ?_⟩
        · simp only [Array.getD_eq_getD_getElem?] at hl ⊢
          rw [Array.getElem?_eq_getElem (by omega)] at hl ⊢
          exact hl
        · have hlt := regOk_edge hok (List.getElem?_eq_getElem hi) hx hb
          exact ih x.on hlt (by omega)
      rw [hr] at this; cases this
    · rfl

theorem drawT_sound (hs : Sound P e) (id : Nat) {t : FT} {h : AHeap} {nx : Nat} {st' : St} (hok : regOk ops = true) (hc : (drawT E e g ops t h nx).run = some st') {ρ : Nat → Nat} {w : World} (R : Rel ρ g h nx w) (ht : SWf t.arr nx) :
    (Code.region id ops.toArray true).wp P (Post g .normal st' ρ h nx w) (actOf ρ t.arr) w := by
  unfold drawT at hc
  simp only at hc
  obtain ⟨s, h1, hc⟩ := Tree.run_bind_out hc
  obtain ⟨hnc, hc⟩ := run_guardF hc
  cases hc
  have I := drawGo_out (nx0 := nx) (t0 := t.arr) ops 0 ⟨[], t, h, nx⟩ s h1 rfl ⟨rfl, (by cases ops <;> rfl), rfl, Nat.le_refl _, (fun j o r _ hr => by cases hr), (fun j r hr => by cases hr)⟩ (Nat.zero_le _)
  have W : Whole E e g ops h t.arr nx s.nx s.rs := ⟨hok, I.len, I.rok, I.ord, hnc⟩
  refine wp_region_any E.hmix ?_
  have hbase : Inv E e g ops h t.arr nx s.nx s.rs ρ w (Array.replicate ops.toArray.size false) (actOf ρ t.arr) w.drew := by
    have hf : ∀ j, (Array.replicate ops.toArray.size false).getD j false = false := fun j => by
      simp only [Array.getD_eq_getD_getElem?, Array.getElem?_replicate]; split <;> rfl
    have hT : putsT (fun j => (Array.replicate ops.toArray.size false).getD j false) 0 ops s.rs t.arr = t.arr := by
      apply Array.ext_getElem?
      intro τ
      exact putsT_stay 0 ops s.rs t.arr fun j o _ hj => by rw [hf] at hj; cases hj
    have hH : ∀ b, (putsH (fun j => (Array.replicate ops.toArray.size false).getD j false) 0 s.rs h).get b = h.get b := fun b =>
      putsH_stay 0 s.rs h fun j o _ hj => by rw [hf] at hj; cases hj
    have R2 := (R.drew).raise I.nx
    refine ⟨by simp, (fun i j _ hl => by rw [hf] at hl; cases hl), (fun j r _ hl => by rw [hf] at hl; cases hl), ρ, by rw [hT], R2.sub (fun b B hb => by rw [← hH]; exact hb) (fun _ _ hb => hb), ?_⟩
    have S0 : Step ρ h nx w ρ h s.nx w.drew := ⟨I.nx, fun _ _ => rfl, fun b B hb _ => ⟨B, hb⟩, fun b B hb hn => absurd (R.lt b B hb).2 (by omega), Nat.le_refl _, rfl, rfl, rfl, fun _ _ _ => rfl⟩
    exact S0.alike hH
  refine wpAny_inv (Inv := Inv E e g ops h t.arr nx s.nx s.rs ρ w) (fun l a w' I => by simpa using I.size) (fun l a w' i I hi => inv_step hs W R ht I hi) (fun l a w' J hr => ?_) ops.toArray.size _ _ _ ?_ hbase
  · have hall := ready_done hok J.size hr
    obtain ⟨ρ', ha, R', S'⟩ := J.world
    have eT : putsT (fun j => l.getD j false) 0 ops s.rs t.arr = s.t.arr := by
      rw [I.t]; exact putsT_congr 0 ops s.rs t.arr fun j _ h2 => by rw [Nat.zero_add, I.len] at h2; exact hall j h2
    have eH : putsH (fun j => l.getD j false) 0 s.rs h = s.H := by
      rw [I.H]; exact putsH_congr 0 s.rs h fun j _ h2 => by rw [Nat.zero_add, I.len] at h2; exact hall j h2
    rw [eT] at ha
    rw [eH] at R' S'
    refine ⟨rfl, ρ', ha, fun v hv => ?_, R', S'⟩
    have hv' : v ∈ putsT (fun _ => true) 0 ops s.rs t.arr := by rw [← I.t]; exact hv
    rcases putsT_from 0 ops s.rs t.arr hv' with h1 | ⟨j, q, h1, h2, _, rfl⟩
    · exact bel_mono I.nx v (ht v h1)
    · exact bel_mono (W.ord j q h1).2.2.1 _ (J.upd j q h1 (hall j h2)).v
  · unfold unl
    exact Nat.le_trans List.countP_le_length (by simp)
end
end
end Go.Den

/-
  Code and calls, read to a depth; the theorem: what is read of a call, the call does.
-/
namespace Go.Den
open Go.RowKit
noncomputable section
set_option linter.unusedSectionVars false
variable [Inhabited Root] [Inhabited Names]

def cok : Code → Bool
  | .region _ ops draw => !draw || regOk ops.toList
  | .seq a b => cok a && cok b
  | .cond _ a b => cok a && cok b
  | .block _ c => cok c
  | .loop c => cok c
  | .scope c => cok c
  | _ => true

section
variable {P : Program} (E : Env P) (e : Ev)
def getF (t : FT) (i : Nat) : Value := evF t (.tmp i)
theorem getF_eq (t : FT) (i : Nat) : getF t i = t.arr.getD i undef := by
  unfold getF; rw [evF_eq]; rfl
def resA (P : Program) (g : AHeap) (t : FT) (h : AHeap) : ResultVar → Option Value
  | .tmp i => some (getF t i)
  | .cell a ty => match getF t a with
    | .pointer (some x) => aload P g h ty x
    | _ => none
def resL (P : Program) (g : AHeap) (t : FT) (h : AHeap) : List ResultVar → Option (List Value)
  | [] => some []
  | x :: r => match resA P g t h x, resL P g t h r with
    | some v, some vs => some (v :: vs)
    | _, _ => none
def resultsA (P : Program) (g : AHeap) (fn : Func) (t : FT) (h : AHeap) : Option Value :=
  match resL P g t h fn.results.toList with
  | some [v] => some v
  | some vs => some (.tuple vs.toArray)
  | none => none
def regionC (g : AHeap) (ops : List Oper) (draw : Bool) (st : St) : Tree (Exit × St) :=
  (match draw with
    | true => drawT E e g ops st.tmps st.h st.nx
    | false => seqT E e g ops ops st.tmps st.h st.nx).bind fun s => .leaf (.normal, s)
def seqC (g : AHeap) (b : Code) (r : Exit × St) : Tree (Exit × St) :=
  match r.1 with
  | .normal => e.code g b r.2
  | _ => .leaf r
def condC (g : AHeap) (x : Operand) (a b : Code) (st : St) : Tree (Exit × St) :=
  bif opndOk x then
    match evF st.tmps x with
    | .bool t => brF E.frc t (e.code g a st) (e.code g b st)
    | _ => .fail
  else .fail
def blockC (id : Nat) (r : Exit × St) : Tree (Exit × St) :=
  match r.1 with
  | .exit id' => bif Nat.beq id' id then .leaf (.normal, r.2) else .leaf r
  | _ => .leaf r
def scopeC (r : Exit × St) : Tree (Exit × St) :=
  match r.1 with
  | .goto _ => .fail
  | _ => .leaf r
/-- What a piece of code does, told of its text alone. -/
structure HdC where
  run : Ev → AHeap → St → Tree (Exit × St)
def cdl (c : Code) : HdC :=
  match c with
  | .skip => ⟨fun _ _ st => .leaf (.normal, st)⟩
  | .label _ => ⟨fun _ _ st => .leaf (.normal, st)⟩
  | .region _ ops draw => ⟨fun e g st => regionC E e g ops.toList draw st⟩
  | .seq a b => ⟨fun e g st => (e.code g a st).bind (seqC e g b)⟩
  | .cond x a b => ⟨fun e g st => condC E e g x a b st⟩
  | .block id c => ⟨fun e g st => (e.code g c st).bind (blockC id)⟩
  | .loop c => ⟨fun e g st => (e.code g c st).bind (seqC e g (.loop c))⟩
  | .exit id => ⟨fun _ _ st => .leaf (.exit id, st)⟩
  | .ret => ⟨fun _ _ st => .leaf (.ret, st)⟩
  | .scope c => ⟨fun e g st => (e.code g c st).bind scopeC⟩
  | _ => ⟨fun _ _ _ => .fail⟩
def codeStep (g : AHeap) (c : Code) (st : St) : Tree (Exit × St) := (cdl E c).run e g st
def retC (g : AHeap) (fn : Func) (st : St) : Tree VR :=
  match resultsA P g fn st.tmps st.h with
  | some v => normV E.frc v fun v => .leaf ⟨v, st.h, st.nx⟩
  | none => .fail
def doneC (g : AHeap) (fn : Func) (r : Exit × St) : Tree VR :=
  match r.1 with
  | .normal => retC E g fn r.2
  | .ret => retC E g fn r.2
  | _ => .fail
def callStep (g : AHeap) (f : FuncId) (args : Array Value) (h : AHeap) (nx : Nat) : Tree VR :=
  match P.funcs[f]? with
  | some fn => match fn.body with
    | some c => bif Nat.ble (args.toList.length + (fn.ntmps - args.toList.length)) roof then startK args.toList fn.ntmps fun t => (e.code g c ⟨t, h, nx⟩).bind (doneC E g fn) else .fail
    | none => .fail
  | none => .fail
def ev (n : Nat) : Ev :=
  Nat.rec (motive := fun _ => Ev) ⟨fun _ _ _ => .fail, fun _ _ _ _ _ => .fail⟩ (fun _ e => ⟨codeStep E e, callStep E e⟩) n
end

section
variable {P : Program} {E : Env P} {e : Ev} {ρ : Nat → Nat} {g h : AHeap} {nx : Nat} {w : World}
theorem getD_ren (t : Array Value) (i : Nat) : (t.map (ren ρ)).getD i undef = ren ρ (t.getD i undef) := by
  simp only [Array.getD_eq_getD_getElem?, Array.getElem?_map]
  cases t[i]? with
  | none => simp [ren_undef]
  | some v => rfl
theorem getD_bel {t : Array Value} (ht : SWf t nx) (i : Nat) : bel nx (t.getD i undef) = true := by
  rw [Array.getD_eq_getD_getElem?]
  by_cases hi : i < t.size
  · rw [Array.getElem?_eq_getElem hi]; exact ht _ (Array.getElem_mem hi)
  · rw [Array.getElem?_eq_none (by omega)]; exact bel_undef _
def resC (t : Array Value) (x : ResultVar) : Sem Value :=
  match x with
  | .tmp i => pure (t.getD i undef)
  | .cell a ty => do loadVar ty (← asAddr (t.getD a undef))
theorem results_eq (fn : Func) (t : Array Value) : results fn t = (do let vs ← fn.results.mapM (resC t); pure (if hh : vs.size = 1 then vs[0] else .tuple vs)) := rfl
theorem run_resA (R : Rel ρ g h nx w) {t : FT} (ht : SWf t.arr nx) {x : ResultVar} {v : Value} (hv : resA P g t h x = some v) :
    (resC (t.arr.map (ren ρ)) x).run P w = .ok (ren ρ v) w ∧ bel nx v = true := by
  cases x with
  | tmp i =>
    simp only [resA, getF_eq] at hv
    cases hv
    exact ⟨by unfold resC; simp only [getD_ren]; rfl, getD_bel ht i⟩
  | cell a ty =>
    unfold resA at hv
    simp only [getF_eq] at hv
    split at hv
    · rename_i ad had
      obtain ⟨h1, h2⟩ := run_aload R hv
      refine ⟨?_, h2⟩
      unfold resC
      simp only [getD_ren, had, ren, asAddr, Sem.run_bind, Sem.run_pure, Result.andThen_ok]
      exact h1
    · cases hv
theorem run_resL (R : Rel ρ g h nx w) {t : FT} (ht : SWf t.arr nx) : ∀ (l : List ResultVar) (vs : List Value), resL P g t h l = some vs →
    (l.mapM (resC (t.arr.map (ren ρ)))).run P w = .ok (vs.map (ren ρ)) w ∧ ∀ v ∈ vs, bel nx v = true
  | [], vs, hv => by cases hv; exact ⟨by simp, by simp⟩
  | x :: r, vs, hv => by
    unfold resL at hv
    split at hv
    · rename_i v us h1 h2
      cases hv
      obtain ⟨a1, a2⟩ := run_resA R ht h1
      obtain ⟨b1, b2⟩ := run_resL R ht r us h2
      refine ⟨?_, fun y hy => ?_⟩
      · rw [List.mapM_cons, Sem.run_bind, a1, Result.andThen_ok, Sem.run_bind, b1]; rfl
      · rcases List.mem_cons.1 hy with rfl | hy
        · exact a2
        · exact b2 y hy
    · cases hv
theorem run_resultsA (R : Rel ρ g h nx w) {t : FT} (ht : SWf t.arr nx) {fn : Func} {v : Value} (hv : resultsA P g fn t h = some v) :
    (results fn (t.arr.map (ren ρ))).run P w = .ok (ren ρ v) w ∧ bel nx v = true := by
  unfold resultsA at hv
  have key : ∀ vs, resL P g t h fn.results.toList = some vs → (results fn (t.arr.map (ren ρ))).run P w = .ok (if hh : (vs.map (ren ρ)).toArray.size = 1 then (vs.map (ren ρ)).toArray[0] else .tuple (vs.map (ren ρ)).toArray) w ∧ ∀ v ∈ vs, bel nx v = true := by
    intro vs h1
    obtain ⟨a1, a2⟩ := run_resL R ht _ vs h1
    refine ⟨?_, a2⟩
    rw [results_eq, Array.mapM_eq_mapM_toList, Sem.run_bind, Sem.run_map, a1]
    rfl
  split at hv
  · rename_i v' h1
    cases hv
    obtain ⟨a1, a2⟩ := key _ h1
    exact ⟨a1, a2 _ (by simp)⟩
  · rename_i vs hne h1
    cases hv
    obtain ⟨a1, a2⟩ := key _ h1
    refine ⟨?_, by rw [bel_tuple]; intro v hv; exact a2 v (by simpa using hv)⟩
    rw [a1, dif_neg]
    · rw [ren_tuple]; simp
    · intro hs
      simp only [List.size_toArray, List.length_map] at hs
      obtain ⟨y, rfl⟩ := List.length_eq_one_iff.1 hs
      exact hne y rfl
  · cases hv

/-- As 'wp', but that a loop begins with a round. -/
def cwp (P : Program) (c : Code) (Q : Exit → Act → World → Prop) (a : Act) (w : World) : Prop :=
  match c with
  | .loop b => ∀ (f : Frame) (k : List Item) (cs : List Frame), ∃ e a' w', Q e a' w' ∧ Arrives P (lone (f.at a (.code b :: .inLoop b :: k)) cs w) f k cs e a' w'
  | c => c.wp P Q a w
theorem cwp_wp {c : Code} {Q : Exit → Act → World → Prop} {a : Act} (h : cwp P c Q a w) : c.wp P Q a w := by
  unfold cwp at h
  split at h
  · intro f k cs
    obtain ⟨e, a', w', hq, harr⟩ := h f k cs
    exact ⟨e, a', w', hq, .of_steps (.one step_loop) harr⟩
  · exact h
theorem cwp_loop {b : Code} {Q : Exit → Act → World → Prop} {a : Act} (h : b.wp P (Exit.then (fun a w => cwp P (.loop b) Q a w) Q) a w) : cwp P (.loop b) Q a w := by
  intro f k cs
  obtain ⟨e, a₁, w₁, hq, harr⟩ := h f (.inLoop b :: k) cs
  cases e with
  | normal =>
    obtain ⟨e₂, a₂, w₂, hq₂, harr₂⟩ := hq f k cs
    exact ⟨e₂, a₂, w₂, hq₂, .of_steps (Steps.trans harr (.one step_inLoop)) harr₂⟩
  | exit id => exact ⟨_, a₁, w₁, hq, .pass (x := .inLoop b) rfl (fun _ _ => .inl (by simp)) harr⟩
  | goto l => exact ⟨_, a₁, w₁, hq, .pass (x := .inLoop b) rfl (fun _ _ => .inl (by simp)) harr⟩
  | ret => exact ⟨_, a₁, w₁, hq, .pass (x := .inLoop b) rfl (fun _ _ => .inl (by simp)) harr⟩
  | panic ch => exact ⟨_, a₁, w₁, hq, .pass (x := .inLoop b) rfl (fun _ _ => .inl (by simp)) harr⟩
  | outgrown => exact ⟨_, a₁, w₁, hq, .pass (x := .inLoop b) rfl (fun _ _ => .inl (by simp)) harr⟩
theorem cwp_of {c : Code} {Q : Exit → Act → World → Prop} {a : Act} (hn : ∀ b, c ≠ .loop b) (h : c.wp P Q a w) : cwp P c Q a w := by
  unfold cwp
  split
  · exact absurd rfl (hn _)
  · exact h
def SatCode (P : Program) (g : AHeap) (c : Code) (st : St) (x : Exit) (st' : St) : Prop :=
  ∀ ρ w, Rel ρ g st.h st.nx w → SWf st.tmps.arr st.nx → cwp P c (Post g x st' ρ st.h st.nx w) (actOf ρ st.tmps.arr) w
structure SoundC (P : Program) (e : Ev) : Prop extends Sound P e where
  code : ∀ g c st r, cok c = true → (e.code g c st).run = some r → SatCode P g c st r.1 r.2
theorem Post.trans {x : Exit} {st' : St} {ρ' : Nat → Nat} {h' : AHeap} {nx' : Nat} {w' : World} (S : Step ρ h nx w ρ' h' nx' w') {e : Exit} {a : Act} {u : World} (hp : Post g x st' ρ' h' nx' w' e a u) : Post g x st' ρ h nx w e a u := by
  obtain ⟨h1, ρ2, h2, h3, h4, h5⟩ := hp
  exact ⟨h1, ρ2, h2, h3, h4, S.trans h5⟩
theorem codeStep_sound (hs : SoundC P e) {c : Code} {st : St} {r : Exit × St} (hok : cok c = true) (hc : (codeStep E e g c st).run = some r) : SatCode P g c st r.1 r.2 := by
  intro ρ w R ht
  have here : ∀ x, Post g x st ρ st.h st.nx w x (actOf ρ st.tmps.arr) w := fun x => ⟨rfl, ρ, rfl, ht, R, R.step⟩
  unfold codeStep cdl at hc
  split at hc
  · cases hc; exact cwp_of (by intro b h; cases h) (wp_skip (here _))
  · cases hc; exact cwp_of (by intro b h; cases h) (wp_label (here _))
  · rename_i id ops draw
    refine cwp_of (by intro b h; cases h) ?_
    unfold regionC at hc
    obtain ⟨s, h1, hc2⟩ := Tree.run_bind_out hc
    clear hc
    cases draw
    · simp only at h1
      cases hc2
      exact wp_region_list (by simpa using seqT_sound hs.toSound ops.toList ops.toList _ _ _ s h1 ρ w R ht)
    · simp only at h1
      cases hc2
      have := drawT_sound (ops := ops.toList) hs.toSound id (by simpa [cok] using hok) h1 R ht
      simpa using this
  · rename_i a b
    simp only [cok, Bool.and_eq_true] at hok
    refine cwp_of (by intro b h; cases h) (wp_seq ?_)
    obtain ⟨s, h1, hc⟩ := Tree.run_bind_out hc
    refine wp_mono (cwp_wp (hs.code g a st s hok.1 h1 ρ w R ht)) ?_
    rintro x a' w' ⟨rfl, ρ', rfl, ht', R', S⟩
    obtain ⟨x, s'⟩ := s
    cases x with
    | normal =>
      exact wp_mono (cwp_wp (hs.code g b s' r hok.2 hc ρ' w' R' ht')) fun x a u hp => hp.trans S
    | exit id => cases hc; exact ⟨rfl, ρ', rfl, ht', R', S⟩
    | goto l => cases hc; exact ⟨rfl, ρ', rfl, ht', R', S⟩
    | ret => cases hc; exact ⟨rfl, ρ', rfl, ht', R', S⟩
    | panic ch => cases hc; exact ⟨rfl, ρ', rfl, ht', R', S⟩
    | outgrown => cases hc; exact ⟨rfl, ρ', rfl, ht', R', S⟩
  · rename_i x a b
    simp only [cok, Bool.and_eq_true] at hok
    unfold condC at hc
    simp only [evF_eq] at hc
    cases hx : opndOk x <;> simp only [hx, cond_true, cond_false] at hc
    · cases hc
    split at hc
    · rename_i t htv
      have hev : (actOf ρ st.tmps.arr).eval x = .bool t := by rw [actOf_eval R hx, htv]; rfl
      refine cwp_of (by intro b h; cases h) (wp_cond hev ?_)
      rcases run_brF hc with ⟨rfl, hc2⟩ | ⟨rfl, hc2⟩
      · exact cwp_wp (hs.code g a st r hok.1 hc2 ρ w R ht)
      · exact cwp_wp (hs.code g b st r hok.2 hc2 ρ w R ht)
    · cases hc
  · rename_i id c
    simp only [cok] at hok
    refine cwp_of (by intro b h; cases h) (wp_block ?_)
    obtain ⟨s, h1, hc⟩ := Tree.run_bind_out hc
    refine wp_mono (cwp_wp (hs.code g c st s hok h1 ρ w R ht)) ?_
    rintro x a' w' ⟨rfl, ρ', rfl, ht', R', S⟩
    obtain ⟨x, s'⟩ := s
    cases x with
    | exit id' =>
      simp only [blockC] at hc
      simp only [Exit.inBlock]
      cases hb : Nat.beq id' id <;> simp only [hb, cond_true, cond_false] at hc
      · cases hc
        have hne : ¬ id' = id := fun he => by rw [he] at hb; simp at hb
        rw [if_neg hne]; exact ⟨rfl, ρ', rfl, ht', R', S⟩
      · cases hc
        rw [Nat.beq_eq] at hb
        rw [if_pos hb]; exact ⟨rfl, ρ', rfl, ht', R', S⟩
    | normal => cases hc; exact ⟨rfl, ρ', rfl, ht', R', S⟩
    | goto l => cases hc; exact ⟨rfl, ρ', rfl, ht', R', S⟩
    | ret => cases hc; exact ⟨rfl, ρ', rfl, ht', R', S⟩
    | panic ch => cases hc; exact ⟨rfl, ρ', rfl, ht', R', S⟩
    | outgrown => cases hc; exact ⟨rfl, ρ', rfl, ht', R', S⟩
  · rename_i c
    have hok' := hok
    simp only [cok] at hok
    refine cwp_loop ?_
    obtain ⟨s, h1, hc⟩ := Tree.run_bind_out hc
    refine wp_mono (cwp_wp (hs.code g c st s hok h1 ρ w R ht)) ?_
    rintro x a' w' ⟨rfl, ρ', rfl, ht', R', S⟩
    obtain ⟨x, s'⟩ := s
    cases x with
    | normal =>
      intro f k cs
      obtain ⟨e, a2, w2, hq, harr⟩ := hs.code g (.loop c) s' r hok' hc ρ' w' R' ht' f k cs
      exact ⟨e, a2, w2, hq.trans S, harr⟩
    | exit id => cases hc; exact ⟨rfl, ρ', rfl, ht', R', S⟩
    | goto l => cases hc; exact ⟨rfl, ρ', rfl, ht', R', S⟩
    | ret => cases hc; exact ⟨rfl, ρ', rfl, ht', R', S⟩
    | panic ch => cases hc; exact ⟨rfl, ρ', rfl, ht', R', S⟩
    | outgrown => cases hc; exact ⟨rfl, ρ', rfl, ht', R', S⟩
  · cases hc; exact cwp_of (by intro b h; cases h) (wp_exit (here _))
  · cases hc; exact cwp_of (by intro b h; cases h) (wp_ret (here _))
  · rename_i c
    simp only [cok] at hok
    refine cwp_of (by intro b h; cases h) (wp_scope_straight ?_)
    obtain ⟨s, h1, hc⟩ := Tree.run_bind_out hc
    refine wp_mono (cwp_wp (hs.code g c st s hok h1 ρ w R ht)) ?_
    rintro x a' w' ⟨rfl, ρ', rfl, ht', R', S⟩
    obtain ⟨x, s'⟩ := s
    cases x with
    | goto l => cases hc
    | normal => cases hc; exact ⟨rfl, ρ', rfl, ht', R', S⟩
    | exit id => cases hc; exact ⟨rfl, ρ', rfl, ht', R', S⟩
    | ret => cases hc; exact ⟨rfl, ρ', rfl, ht', R', S⟩
    | panic ch => cases hc; exact ⟨rfl, ρ', rfl, ht', R', S⟩
    | outgrown => cases hc; exact ⟨rfl, ρ', rfl, ht', R', S⟩
  · cases hc
theorem callStep_sound (hs : SoundC P e) (hcok : ∀ (f : Nat) fn c, P.funcs[f]? = some fn → fn.body = some c → cok c = true) {f : FuncId} {args : Array Value} {r : VR} (hc : (callStep E e g f args h nx).run = some r) :
    SatCall P g f args h nx r ∧ (P.funcs[f]?.bind (·.body)).isSome = true := by
  unfold callStep at hc
  split at hc
  · rename_i fn hf
    split at hc
    · rename_i c hb
      cases hle : Nat.ble (args.toList.length + (fn.ntmps - args.toList.length)) roof <;> simp only [hle, cond_true, cond_false] at hc
      · cases hc
      rw [startK_eq] at hc
      have e1 : (start args.toList fn.ntmps).arr = args ++ Array.replicate (fn.ntmps - args.size) undef := by
        rw [start_arr _ _ (by rwa [Nat.ble_eq] at hle)]
        apply Array.toList_inj.1; simp
      refine ⟨fun ρ w R ha => ?_, by rw [hf]; simp [hb]⟩
      obtain ⟨s, h1, hc⟩ := Tree.run_bind_out hc
      have hst : SWf (start args.toList fn.ntmps).arr nx := by
        rw [e1]
        intro v hv
        rcases Array.mem_append.1 hv with hv | hv
        · exact ha v hv
        · rw [(Array.mem_replicate.1 hv).2]; exact bel_undef _
      have hact : (⟨args.map (ren ρ) ++ Array.replicate (fn.ntmps - (args.map (ren ρ)).size) undef, []⟩ : Act) = actOf ρ (start args.toList fn.ntmps).arr := by
        rw [e1]; unfold actOf; rw [Array.map_append, Array.map_replicate, ren_undef, Array.size_map]
      have key : ∀ v, resultsA P g fn s.2.tmps s.2.h = some v → r = ⟨v, s.2.h, s.2.nx⟩ → ∀ a' w', Post g s.1 s.2 ρ h nx w s.1 a' w' →
          a'.defers = [] ∧ ∃ u, (results fn a'.tmps).run P w' = .ok u w' ∧ (∃ ρ', Ending.returned u = .returned (ren ρ' r.v) ∧ bel r.nx r.v = true ∧ Rel ρ' g r.h r.nx w' ∧ Step ρ h nx w ρ' r.h r.nx w') := by
        rintro v hv rfl a' w' ⟨_, ρ', rfl, ht', R', S⟩
        obtain ⟨a1, a2⟩ := run_resultsA R' ht' hv
        exact ⟨rfl, _, a1, ρ', rfl, a2, R', S⟩
      refine calls_of_wp hf hb ?_
      rw [hact]
      refine wp_mono (cwp_wp (hs.code g c _ s (hcok f fn c hf hb) h1 ρ w R hst)) ?_
      intro x a' w' hp
      obtain ⟨rfl, hp'⟩ := hp
      obtain ⟨x, s'⟩ := s
      cases x with
      | normal =>
        simp only [doneC, retC] at hc
        split at hc
        · rename_i v hv
          rw [normV_run] at hc
          cases hc; exact key v hv rfl a' w' ⟨rfl, hp'⟩
        · cases hc
      | ret =>
        simp only [doneC, retC] at hc
        split at hc
        · rename_i v hv
          rw [normV_run] at hc
          cases hc; exact key v hv rfl a' w' ⟨rfl, hp'⟩
        · cases hc
      | exit id => cases hc
      | goto l => cases hc
      | panic ch => cases hc
      | outgrown => cases hc
    · cases hc
  · cases hc
theorem ev_sound (E : Env P) (hcok : ∀ (f : Nat) fn c, P.funcs[f]? = some fn → fn.body = some c → cok c = true) : ∀ n, SoundC P (ev E n)
  | 0 => { call := fun _ _ _ _ _ _ h => (by cases h), code := fun _ _ _ _ _ h => (by cases h) }
  | n + 1 => { call := fun _ _ _ _ _ _ h => callStep_sound (ev_sound E hcok n) hcok h, code := fun _ _ _ _ hok h => codeStep_sound (ev_sound E hcok n) hok h }
end
end
end Go.Den

/-
  Functions without a Go body, as they are read; and from a reading to a call.
-/
namespace Go.Den
open Go.RowKit
noncomputable section

/-- math/bits.Add64. -/
def add64A : Array Value → Option (Bool × Value)
  | ⟨[.int .u64 x, .int .u64 y, .int .u64 c]⟩ => some (decide (0 ≤ c) && (decide (c ≤ 1) && (decide (0 ≤ x) && decide (0 ≤ y))),
      .tuple #[.int .u64 ((x + y + c) % 18446744073709551616), .int .u64 ((x + y + c) / 18446744073709551616)])
  | _ => none
/-- math/bits.Sub64. -/
def sub64A : Array Value → Option (Bool × Value)
  | ⟨[.int .u64 x, .int .u64 y, .int .u64 b]⟩ => some (decide (0 ≤ b) && (decide (b ≤ 1) && (decide (0 ≤ x) && (decide (0 ≤ y) && decide (y ≤ 18446744073709551615)))),
      .tuple #[.int .u64 ((x - y - b) % 18446744073709551616), .int .u64 (if x < y + b then 1 else 0)])
  | _ => none
section
variable {P : Program} {f : FuncId} {fn : Func}
theorem add64_ext (hf : P.funcs[f]? = some fn) (hn : (fn.name == "runtime.NumGoroutine") = false) (hb : fn.body.isNone = true) (h1 : Extern.findNext fn = none) (h2 : Extern.find fn = some Go.add64Entry)
    {args : Array Value} {r : Bool × Value} (hr : add64A args = some r) (hok : r.1 = true) : bel B0 r.2 = true ∧ ∀ w, (callFunc f args).run P w = .ok (.value r.2) w := by
  unfold add64A at hr
  split at hr
  · rename_i x y c
    cases hr
    simp only [Bool.and_eq_true, decide_eq_true_eq] at hok
    refine ⟨rfl, fun w => ?_⟩
    rw [run_callFunc_extern hf hn hb h1 h2, Go.run_add64 x y c hok.2.2.1 hok.2.2.2 hok.1 hok.2.1]
    rfl
  · cases hr
theorem sub64_ext (hf : P.funcs[f]? = some fn) (hn : (fn.name == "runtime.NumGoroutine") = false) (hb : fn.body.isNone = true) (h1 : Extern.findNext fn = none) (h2 : Extern.find fn = some Go.Proofs.sub64Entry)
    {args : Array Value} {r : Bool × Value} (hr : sub64A args = some r) (hok : r.1 = true) : bel B0 r.2 = true ∧ ∀ w, (callFunc f args).run P w = .ok (.value r.2) w := by
  unfold sub64A at hr
  split at hr
  · rename_i x y b
    cases hr
    simp only [Bool.and_eq_true, decide_eq_true_eq] at hok
    refine ⟨rfl, fun w => ?_⟩
    obtain ⟨p4, p5, p1, p2, p3⟩ := hok
    obtain ⟨x, rfl⟩ := Int.eq_ofNat_of_zero_le p1
    obtain ⟨y, rfl⟩ := Int.eq_ofNat_of_zero_le p2
    obtain ⟨b, rfl⟩ := Int.eq_ofNat_of_zero_le p4
    rw [run_callFunc_extern hf hn hb h1 h2, Go.Proofs.run_sub64 x y b (by omega)]
    simp only [Result.andThen]
    have e1 : (((x + 18446744073709551616 - y - b) % 18446744073709551616 : Nat) : Int) = ((x : Int) - y - b) % 18446744073709551616 := by omega
    have e2 : ((if x < y + b then 1 else 0 : Nat) : Int) = if (x : Int) < y + b then 1 else 0 := by
      by_cases h : x < y + b
      · rw [if_pos h, if_pos (by omega)]; rfl
      · rw [if_neg h, if_neg (by omega)]; rfl
    rw [e1, e2]
  · cases hr
end
/-- What is read of a call whose arguments, and whose value, bear no addresses. -/
theorem calls_readK {P : Program} [Inhabited Root] (E : Env P) (hcok : ∀ (f : Nat) fn c, P.funcs[f]? = some fn → fn.body = some c → cok c = true) (n : Nat) {f : FuncId} {args : Array Value} {v : Value}
    (hr : (((ev E n).call [] f args [] B0).run.map (·.v)) = some v) (ha : args.all (bel B0) = true) (hv : bel B0 v = true) (w : World) (hw : Held w) : Calls P f args w fun e w' => e = .returned v ∧ Below w.heap.size w w' := by
  cases hq : ((ev E n).call [] f args [] B0).run with
  | none => rw [hq] at hr; cases hr
  | some r =>
    rw [hq] at hr
    simp only [Option.map_some, Option.some.injEq] at hr
    subst hr
    obtain ⟨h1, _⟩ := (ev_sound E hcok n).call _ _ _ _ _ _ hq
    have R : Rel id [] [] B0 w := Rel.initK hw
    have hargs : ∀ v ∈ args, bel B0 v = true := Array.all_eq_true_iff_forall_mem.1 ha
    have h2 := h1 id w R hargs
    rw [map_low R hargs] at h2
    refine h2.mono ?_
    rintro e w' ⟨ρ', rfl, hb, R', S⟩
    exact ⟨by rw [ren_id R'.low r.v hv], ⟨S.os, S.tape, S.output, S.size, fun k hk => S.none_keep k hk⟩⟩
theorem calls_read {P : Program} (E : Env P) (hcok : ∀ (f : Nat) fn c, P.funcs[f]? = some fn → fn.body = some c → cok c = true) (n : Nat) {f : FuncId} {args : Array Value} {v : Value}
    (hr : (((ev E n).call [] f args [] B0).run.map (·.v)) = some v) (ha : args.all (bel B0) = true) (hv : bel B0 v = true) (w : World) : Calls P f args w fun e w' => e = .returned v ∧ Below w.heap.size w w' :=
  @calls_readK P trivRoot E hcok n f args v hr ha hv w (held_triv w)
theorem eq_of_all {p : Func → Bool} {P : Program} (h : P.funcs.all p = true) {f : Nat} {fn : Func} (hf : P.funcs[f]? = some fn) : p fn = true :=
  (Array.all_eq_true_iff_forall_mem.1 h) fn (Array.mem_of_getElem? hf)
end
end Go.Den

/-
  Contracts as oracles of a reading; what must hold, as one proposition.
-/
namespace Go.Den
open Go.RowKit
noncomputable section

theorem bcase_t {p q : Prop} : bcase true p q = p := rfl
theorem bcase_in {b : Bool} {p q : Prop} (hp : b = true → p) (hq : b = false → q) : bcase b p q := by
  cases b
  · exact hq rfl
  · exact hp rfl
theorem all_bel {n : Nat} {l : List Value} (h : belL n l = true) : (⟨l⟩ : Array Value).all (bel n) = true := by
  rw [belL_eq] at h; simpa using h
variable [Inhabited Root] [Inhabited Names]
/-- The same contract for every call of a function whose arguments are as told: nothing old turns. -/
structure PC (P : Program) where
  f : FuncId
  spec : Array Value → Option (Bool × Value)
  body : (P.funcs[f]?.bind (·.body)).isSome = true
  ok : ∀ args r, spec args = some r → r.1 = true → args.all (bel B0) = true ∧ bel B0 r.2 = true ∧ ∀ w, Calls P f args w fun e w' => e = .returned r.2 ∧ Below w.heap.size w w'
def orcOf {P : Program} : List (PC P) → FuncId → Array Value → AHeap → Nat → Option (Tree VR)
  | [], _, _, _, _ => none
  | c :: r, f, args, h, nx => bif Nat.beq c.f f then
      match c.spec args with
      | some q => some (.br q.1 (.leaf ⟨q.2, h, nx⟩) .fail)
      | none => orcOf r f args h nx
    else orcOf r f args h nx
theorem orcOf_sound {P : Program} {g h : AHeap} {nx : Nat} : ∀ (l : List (PC P)) (f : FuncId) (args : Array Value) (t : Tree VR) (r : VR), orcOf l f args h nx = some t → t.run = some r →
    SatCall P g f args h nx r ∧ (P.funcs[f]?.bind (·.body)).isSome = true
  | [], _, _, _, _, ho, _ => by cases ho
  | c :: l, f, args, t, r, ho, hr => by
    unfold orcOf at ho
    simp only [cond_eq_ite, Nat.beq_eq] at ho
    split at ho
    · rename_i hf
      split at ho
      · rename_i q hq
        cases ho
        obtain ⟨hok, hr⟩ := Tree.run_guard hr
        cases hr
        obtain ⟨h1, h2, h3⟩ := c.ok args q hq hok
        subst hf
        refine ⟨fun ρ w R ha => ?_, c.body⟩
        have hlow : ∀ v ∈ args, bel B0 v = true := Array.all_eq_true_iff_forall_mem.1 h1
        rw [map_low R hlow]
        refine (h3 w).mono ?_
        rintro e w' ⟨rfl, hb⟩
        refine ⟨ρ, by rw [ren_low R h2], bel_low R h2, R.later (fun _ _ => rfl) fun k hk => hb.block k hk,
          ⟨Nat.le_refl _, fun _ _ => rfl, fun b B hb' _ => ⟨B, hb'⟩, fun b B hb' hn => absurd (R.lt b B hb').2 (by omega), hb.size, hb.os, hb.tape, hb.output, fun k hk _ => hb.block k hk⟩⟩
      · exact orcOf_sound l f args t r ho hr
    · exact orcOf_sound l f args t r ho hr
/-- The same reading with other oracles. -/
def Env.with {P : Program} (E : Env P) (fr : Bool) (l : List (PC P)) : Env P :=
  { E with
    frc := fr
    orc := fun _ f args h nx => orcOf l f args h nx
    horc := fun _ f args _ _ t r ho hr => orcOf_sound l f args t r ho hr }
end
noncomputable section
/-- A contract out of a reading. -/
theorem calls_specK {P : Program} [Inhabited Root] (E : Env P) (hcok : ∀ (f : Nat) fn c, P.funcs[f]? = some fn → fn.body = some c → cok c = true) (n : Nat) {f : FuncId} {args : Array Value} {v : Value}
    (hr : ((ev E n).call [] f args [] B0).holds fun r => r.v = v) (ha : args.all (bel B0) = true) (hv : bel B0 v = true) (w : World) (hw : Held w) : Calls P f args w fun e w' => e = .returned v ∧ Below w.heap.size w w' := by
  obtain ⟨r, h1, h2⟩ := Tree.holds_out hr
  exact calls_readK E hcok n (v := v) (by rw [h1]; simp [h2]) ha hv w hw
theorem calls_spec {P : Program} (E : Env P) (hcok : ∀ (f : Nat) fn c, P.funcs[f]? = some fn → fn.body = some c → cok c = true) (n : Nat) {f : FuncId} {args : Array Value} {v : Value}
    (hr : ((ev E n).call [] f args [] B0).holds fun r => r.v = v) (ha : args.all (bel B0) = true) (hv : bel B0 v = true) (w : World) : Calls P f args w fun e w' => e = .returned v ∧ Below w.heap.size w w' :=
  @calls_specK P trivRoot E hcok n f args v hr ha hv w (held_triv w)
end
end Go.Den

/-
  Pieces of code, one behind another: what each comes to, put together.
-/
namespace Go.Den
open Go.RowKit
noncomputable section
set_option linter.unusedSectionVars false
theorem calls_satK {P : Program} [Inhabited Root] {f : FuncId} {args : Array Value} {r : VR} (h1 : SatCall P [] f args [] B0 r) (ha : args.all (bel B0) = true) (hv : bel B0 r.v = true) (w : World) (hw : Held w) : Calls P f args w fun e w' => e = .returned r.v ∧ Below w.heap.size w w' := by
  have R : Rel id [] [] B0 w := Rel.initK hw
  have hargs : ∀ v ∈ args, bel B0 v = true := Array.all_eq_true_iff_forall_mem.1 ha
  have h2 := h1 id w R hargs
  rw [map_low R hargs] at h2
  refine h2.mono ?_
  rintro e w' ⟨ρ', rfl, hb, R', S⟩
  exact ⟨by rw [ren_id R'.low r.v hv], ⟨S.os, S.tape, S.output, S.size, fun k hk => S.none_keep k hk⟩⟩
theorem calls_sat {P : Program} {f : FuncId} {args : Array Value} {r : VR} (h1 : @SatCall trivRoot trivNames P [] f args [] B0 r) (ha : args.all (bel B0) = true) (hv : bel B0 r.v = true) (w : World) : Calls P f args w fun e w' => e = .returned r.v ∧ Below w.heap.size w w' :=
  @calls_satK P trivRoot f args r h1 ha hv w (held_triv w)
variable [Inhabited Root] [Inhabited Names]

def cL : Code → Code
  | .seq a _ => a
  | .cond _ a _ => a
  | .block _ c => c
  | .loop c => c
  | .scope c => c
  | c => c
def cR : Code → Code
  | .seq _ b => b
  | .cond _ _ b => b
  | c => c
section
variable {P : Program} {g : AHeap} {c a b : Code} {st s1 s2 : St} {x : Exit} {id : Nat}
theorem cwp_mono {Q Q' : Exit → Act → World → Prop} {a : Act} {w : World} (h : cwp P c Q a w) (hQ : ∀ x a w, Q x a w → Q' x a w) : cwp P c Q' a w := by
  unfold cwp at *
  split at h
  · intro f k cs
    obtain ⟨e, a', w', hq, harr⟩ := h f k cs
    exact ⟨e, a', w', hQ _ _ _ hq, harr⟩
  · rename_i hne
    exact wp_mono h hQ
theorem sat_read (E : Env P) (hcok : ∀ (f : Nat) fn c, P.funcs[f]? = some fn → fn.body = some c → cok c = true) (n : Nat) {r : Exit × St} (hok : cok c = true) (h : ((ev E n).code g c st).run = some r) : SatCode P g c st r.1 r.2 :=
  (ev_sound E hcok n).code g c st r hok h
theorem sat_seq (hc : c = .seq a b) (h1 : SatCode P g a st .normal s1) (h2 : SatCode P g b s1 x s2) : SatCode P g c st x s2 := by
  subst hc
  intro ρ w R ht
  refine cwp_of (by intro b h; cases h) (wp_seq ?_)
  refine wp_mono (cwp_wp (h1 ρ w R ht)) ?_
  rintro x a' w' ⟨rfl, ρ', rfl, ht', R', S⟩
  exact wp_mono (cwp_wp (h2 ρ' w' R' ht')) fun x a u hp => hp.trans S
theorem sat_block (hc : c = .block id b) (h : SatCode P g b st (.exit id) s1) : SatCode P g c st .normal s1 := by
  subst hc
  intro ρ w R ht
  refine cwp_of (by intro b h; cases h) (wp_block ?_)
  refine wp_mono (cwp_wp (h ρ w R ht)) ?_
  rintro x a' w' ⟨rfl, ρ', rfl, ht', R', S⟩
  simp only [Exit.inBlock, if_pos]
  exact ⟨rfl, ρ', rfl, ht', R', S⟩
theorem sat_loop (hc : c = .loop b) (h1 : SatCode P g b st .normal s1) (h2 : SatCode P g c s1 x s2) : SatCode P g c st x s2 := by
  subst hc
  intro ρ w R ht
  refine cwp_loop ?_
  refine wp_mono (cwp_wp (h1 ρ w R ht)) ?_
  rintro x a' w' ⟨rfl, ρ', rfl, ht', R', S⟩
  intro f k cs
  obtain ⟨e, a2, w2, hq, harr⟩ := h2 ρ' w' R' ht' f k cs
  exact ⟨e, a2, w2, hq.trans S, harr⟩
theorem sat_loop_exit (hc : c = .loop b) (h1 : SatCode P g b st (.exit id) s1) : SatCode P g c st (.exit id) s1 := by
  subst hc
  intro ρ w R ht
  refine cwp_loop ?_
  refine wp_mono (cwp_wp (h1 ρ w R ht)) ?_
  rintro x a' w' ⟨rfl, ρ', rfl, ht', R', S⟩
  exact ⟨rfl, ρ', rfl, ht', R', S⟩
/-- The same temporaries, told in another way. -/
theorem sat_arr (ht : s2.tmps.arr = st.tmps.arr) (hh : s2.h = st.h) (hn : s2.nx = st.nx) (h : SatCode P g c s2 x s1) : SatCode P g c st x s1 := by
  intro ρ w R hs
  have := h ρ w (by rw [hn, hh]; exact R) (by rw [ht, hn]; exact hs)
  rw [ht, hn, hh] at this
  exact this
/-- Blocks that are not wanted any more. -/
theorem sat_drop (ht : s2.tmps = st.tmps) (hn : s2.nx = st.nx) (hh : ∀ b B, s2.h.get b = some B → st.h.get b = some B) (h : SatCode P g c s2 x s1) : SatCode P g c st x s1 := by
  intro ρ w R hs
  have := h ρ w (by rw [hn]; exact R.sub hh fun _ _ h => h) (by rw [ht, hn]; exact hs)
  rw [ht, hn] at this
  refine cwp_mono this ?_
  rintro x a w' ⟨rfl, ρ', rfl, ht', R', S⟩
  refine ⟨rfl, ρ', rfl, ht', R', S.le, S.agree, fun b B hb hl => ?_, S.new, S.size, S.os, S.tape, S.output, fun k hk hno => S.keep k hk fun b B hb => hno b B (hh b B hb)⟩
  obtain ⟨C, hC⟩ := S.old b B hb hl
  exact ⟨C, hh b C hC⟩
theorem sat_call {f : FuncId} {fn : Func} {args : Array Value} {h : AHeap} {nx : Nat} {v : Value} (hf : P.funcs[f]? = some fn) (hb : fn.body = some c) (hle : Nat.ble (args.toList.length + (fn.ntmps - args.toList.length)) roof = true)
    (hs : SatCode P g c ⟨start args.toList fn.ntmps, h, nx⟩ x s1) (hx : x = .normal ∨ x = .ret) (hv : resultsA P g fn s1.tmps s1.h = some v) : SatCall P g f args h nx ⟨v, s1.h, s1.nx⟩ := by
  have e1 : (start args.toList fn.ntmps).arr = args ++ Array.replicate (fn.ntmps - args.size) undef := by
    rw [start_arr _ _ (by rwa [Nat.ble_eq] at hle)]
    apply Array.toList_inj.1; simp
  intro ρ w R ha
  have hst : SWf (start args.toList fn.ntmps).arr nx := by
    rw [e1]
    intro v hv
    rcases Array.mem_append.1 hv with hv | hv
    · exact ha v hv
    · rw [(Array.mem_replicate.1 hv).2]; exact bel_undef _
  have hact : (⟨args.map (ren ρ) ++ Array.replicate (fn.ntmps - (args.map (ren ρ)).size) undef, []⟩ : Act) = actOf ρ (start args.toList fn.ntmps).arr := by
    rw [e1]; unfold actOf; rw [Array.map_append, Array.map_replicate, ren_undef, Array.size_map]
  refine calls_of_wp hf hb ?_
  rw [hact]
  refine wp_mono (cwp_wp (hs ρ w R hst)) ?_
  rintro e a' w' ⟨rfl, ρ', rfl, ht', R', S⟩
  obtain ⟨a1, a2⟩ := run_resultsA R' ht' hv
  have key : (actOf ρ' s1.tmps.arr).defers = [] ∧ ∃ u, (results fn (actOf ρ' s1.tmps.arr).tmps).run P w' = .ok u w' ∧ (∃ ρ2, Ending.returned u = .returned (ren ρ2 v) ∧ bel s1.nx v = true ∧ Rel ρ2 g s1.h s1.nx w' ∧ Step ρ h nx w ρ2 s1.h s1.nx w') :=
    ⟨rfl, _, a1, ρ', rfl, a2, R', S⟩
  rcases hx with rfl | rfl
  · exact key
  · exact key
/-- What a tree without partings comes to. -/
def outOf (t : Tree (Exit × St)) : Exit × St := t.run.getD (.normal, ⟨⟨0, .nil⟩, [], 0⟩)
def tlOf (s : St) : List Value := (List.range s.tmps.size).map fun i => s.tmps.tr.get i
end
end
end Go.Den




namespace Go.Den

open Go.Proofs

set_option maxRecDepth 100000

set_option linter.unusedSectionVars false

variable [Inhabited Root] [Inhabited Names]

theorem hmixT : Tryd.prog.follows .mixedOrders = true := by kernel_rfl
theorem hngT : (Tryd.prog.funcs.all fun fn => !(fn.name == "runtime.NumGoroutine")) = true := by kernel_rfl
theorem hcokT : (Tryd.prog.funcs.all fun fn => match fn.body with | some c => cok c | none => true) = true := by kernel_rfl
/-- The types whose values may be compared. -/
def soL : List Nat := [52]
theorem soAll : (soL.all fun t => !Tryd.prog.stoodInHeld t && !Tryd.prog.eqGuardType Tryd.prog.depth t) = true := by kernel_rfl
noncomputable def envF (fr : Bool) : Env Tryd.prog where
  frc := fr
  so := fun t => soL.any (Nat.beq t)
  hso := fun t h => by
    obtain ⟨u, hu, hb⟩ := List.any_eq_true.1 h
    rw [Nat.beq_eq] at hb
    subst hb
    have := List.all_eq_true.1 soAll _ hu
    rw [Bool.and_eq_true, Bool.not_eq_true', Bool.not_eq_true'] at this
    exact this
  hmix := hmixT
  hng := fun f fn hf => by have := eq_of_all hngT hf; simpa using this
  ext := fun f args => bif Nat.beq f 61 then add64A args else bif Nat.beq f 70 then sub64A args else none
  hext := fun f args r hr hok => by
    simp only [cond_eq_ite, Nat.beq_eq] at hr
    split at hr
    · rename_i h; subst h
      exact add64_ext Tryd.func61 (by kernel_rfl) (by kernel_rfl) (by kernel_rfl) (by kernel_rfl) hr hok
    · split at hr
      · rename_i h; subst h
        exact sub64_ext Tryd.func70 (by kernel_rfl) (by kernel_rfl) (by kernel_rfl) (by kernel_rfl) hr hok
      · cases hr
  orc := fun _ _ _ _ _ => none
  horc := fun _ _ _ _ _ _ _ h => by cases h
noncomputable abbrev envT : Env Tryd.prog := envF true
noncomputable abbrev envS : Env Tryd.prog := envF false
theorem hcokP (f : Nat) (fn : Func) (c : Code) (hf : Tryd.prog.funcs[f]? = some fn) (hb : fn.body = some c) : cok c = true := by
  have := eq_of_all hcokT hf
  rw [hb] at this; exact this
end Go.Den

/-
  Pieces of code, one behind another: partings, and returns.
-/
namespace Go.Den
open Go.RowKit
noncomputable section
set_option linter.unusedSectionVars false
variable [Inhabited Root] [Inhabited Names]
section
variable {P : Program} {g : AHeap} {c a b : Code} {st s1 s2 : St} {x : Exit} {id : Nat}
theorem sat_seq_ret (hc : c = .seq a b) (h1 : SatCode P g a st .ret s1) : SatCode P g c st .ret s1 := by
  subst hc
  intro ρ w R ht
  refine cwp_of (by intro b h; cases h) (wp_seq ?_)
  refine wp_mono (cwp_wp (h1 ρ w R ht)) ?_
  rintro x a' w' ⟨rfl, ρ', rfl, ht', R', S⟩
  exact ⟨rfl, ρ', rfl, ht', R', S⟩
theorem sat_cond_t {o : Operand} (hc : c = .cond o a b) (ho : opndOk o = true) (hv : evF st.tmps o = .bool true) (h : SatCode P g a st x s1) : SatCode P g c st x s1 := by
  subst hc
  intro ρ w R ht
  have hev : (actOf ρ st.tmps.arr).eval o = .bool true := by rw [actOf_eval R ho, ← evF_eq, hv]; rfl
  exact cwp_of (by intro b h; cases h) (wp_cond hev (cwp_wp (h ρ w R ht)))
end
end
end Go.Den
