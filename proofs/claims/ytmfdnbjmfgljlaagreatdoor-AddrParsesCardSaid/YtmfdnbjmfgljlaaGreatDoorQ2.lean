/-
  Own texts, merged: DenM DenN DenX DenY DenS DenU DenV DenO DenEnv WMath TxA HxA Kit HxB HxC
-/
import Derived.Laws.Externs
import Derived.Shelf.Spec.BitsCarry
import Derived.Test.YtmfdnbjmfgljlaaGreatDoorRows
import Derived.Lib.ItoaNum
import Derived.Lib.ItoaMem
import Derived.Lib.Strings
import Derived.WalkKit
import Derived.WalkSpells
import Derived.ProofKit
import Derived.OpenShut
import Derived.Lib.Hide
import Derived.OneCell
import Derived.BigQuiet
import Derived.Deep.QuietTactic
import Derived.Deep.RegionHeld3
import Derived.Deep.DrawnRows
import Derived.Deep.DeepCutAuto
import Derived.IntWalk
import Derived.OwnWalk
import Derived.Deep.AppendLies
import Derived.Deep.RegionLaw
import Derived.Test.YtmfdnbjmfgljlaaGreatDoorQ1

/-
  A region that draws its order: whatever comes next, what holds goes on to hold; so the region comes to what is read.
-/
namespace Go.Den
open Go.RowKit
noncomputable section
set_option linter.unusedSectionVars false
variable [Inhabited Root] [Inhabited Names]

section
variable {P : Program} {E : Env P} {e : Ev} {g : AHeap} {ops : List Oper} {h0 : AHeap} {t0 : Array Value} {nx0 N : Nat} {rs : List DR} {ρ0 : Nat → Nat} {w0 : World} {l : Array Bool}
theorem getD_set {l : Array Bool} {i j : Nat} (hi : i < l.size) : (l.setIfInBounds i true).getD j false = (l.getD j false || Nat.beq j i) := by
  simp only [Array.getD_eq_getD_getElem?, Array.getElem?_setIfInBounds]
  by_cases h : i = j
  · subst h; simp [hi]
  · rw [if_neg h]
    cases hb : Nat.beq j i
    · simp
    · rw [Nat.beq_eq] at hb; exact absurd hb.symm h
theorem putsT_one (W : Whole E e g ops h0 t0 nx0 N rs) {i : Nat} {o : Oper} {r : DR} (ho : ops[i]? = some o) (hr : rs[i]? = some r) {L L' : Nat → Bool} (hL' : L' i = true) (hne : ∀ j, j ≠ i → L' j = L j) :
    putT (putsT L 0 ops rs t0) o.dst r.v = putsT L' 0 ops rs t0 := by
  apply Array.ext_getElem?
  intro τ
  have hdst : ∀ (k : Nat) (p : Oper), ops[k]? = some p → k ≠ i → o.dst = some τ → p.dst ≠ some τ := fun k p hp hk hd => (regOk_dst W.ok hp ho hk hd).1
  by_cases hd : o.dst = some τ
  · by_cases hsz : τ < t0.size
    · rw [putsT_self (r := r) 0 ops rs t0 i ho hr (by rw [Nat.zero_add]; exact hL') hd hsz fun k p hp hk _ => hdst k p hp hk hd, hd]
      simp only [putT, Array.getElem?_setIfInBounds, if_true]
      rw [if_pos (by rw [putsT_size]; exact hsz)]
    · have hs1 : (putT (putsT L 0 ops rs t0) o.dst r.v).size = t0.size := by rw [hd]; simp only [putT, Array.size_setIfInBounds]; exact putsT_size _ _ _ _ _
      rw [Array.getElem?_eq_none (by rw [hs1]; exact Nat.le_of_not_lt hsz), Array.getElem?_eq_none (by rw [putsT_size]; exact Nat.le_of_not_lt hsz)]
  · rw [putT_other hd]
    refine putsT_look 0 ops rs t0 t0 rfl fun j p hp hj hd2 => ?_
    rw [Nat.zero_add] at hj
    by_cases hji : j = i
    · subst hji; rw [ho] at hp; cases hp; exact hd hd2
    · exact hj (hne j hji).symm

theorem inv_step (hs : Sound P e) (W : Whole E e g ops h0 t0 nx0 N rs) (R0 : Rel ρ0 g h0 nx0 w0) (T0 : SWf t0 nx0) {Q : Exit → Act → World → Prop} {a : Act} {w : World} {i : Nat}
    (I : Inv E e g ops h0 t0 nx0 N rs ρ0 w0 l a w) (hi : i ∈ Region.ready .any ops.toArray l) : wpOp P ops.toArray Q i (Inv E e g ops h0 t0 nx0 N rs ρ0 w0 (l.setIfInBounds i true)) a w := by
  obtain ⟨o, X⟩ := nxt_of I.size I.closed hi
  have hil := (List.getElem?_eq_some_iff.1 X.ho).1
  obtain ⟨r, hr⟩ := W.lenr X.ho
  obtain ⟨ρ, rfl, R, S⟩ := I.world
  have ord := W.ord i r hr
  have hls : i < l.size := by rw [I.size]; exact hil
  have RO := W.rok i o r X.ho hr
  -- what holds of the greater set
  have hL' : (l.setIfInBounds i true).getD i false = true := by rw [getD_set hls]; simp
  have hne : ∀ j, j ≠ i → (l.setIfInBounds i true).getD j false = l.getD j false := fun j hj => by
    rw [getD_set hls]
    cases hb : Nat.beq j i
    · simp
    · rw [Nat.beq_eq] at hb; exact absurd hb hj
  have hsize' : (l.setIfInBounds i true).size = ops.length := by simp [I.size]
  have hclosed' : ∀ i' j, i' < ops.length → (l.setIfInBounds i true).getD i' false = true → dep (masksGo ops []) i' j = true → (l.setIfInBounds i true).getD j false = true := by
    intro i' j hi' hl hd
    by_cases hji : j = i
    · rw [hji]; exact hL'
    · rw [hne j hji]
      by_cases hii : i' = i
      · rw [hii] at hd; exact X.dep j hd
      · rw [hne i' hii] at hl; exact I.closed i' j hi' hl hd
  have hlt_of : ∀ j, l.getD j false = true → (hj : j < ops.length) → ∀ q, rs[j]? = some q → j ≠ i := fun j hl hj q hq => by rintro rfl; rw [X.no] at hl; cases hl
  -- names in what has been told
  have origin := W.origin R0 (L := fun j => l.getD j false) I.closed I.upd
  have hname : ∀ b B, (putsH (fun j => l.getD j false) 0 rs h0).get b = some B → b < r.n0 ∨ r.n1 ≤ b := by
    intro b B hb
    have h1 : b < nx0 ∨ ∃ (k : Nat) (q : DR), rs[k]? = some q ∧ l.getD k false = true ∧ q.n0 ≤ b ∧ b < q.n1 := by
      rcases putsH_from 0 rs h0 hb with h1 | ⟨j, q, h1, h2, h3⟩
      · exact .inl (R0.lt b B h1).2
      · rw [Nat.zero_add] at h2; exact origin j q h1 h2 b B h3
    rcases h1 with h1 | ⟨k, q, h1, h2, h3, h4⟩
    · left; omega
    · have hki : k ≠ i := by rintro rfl; rw [X.no] at h2; cases h2
      rcases Nat.lt_or_gt_of_ne hki with h5 | h5
      · left; have := ord.2.2.2 k q h5 h1; omega
      · right; have := (W.ord k q h1).2.2.2 i r h5 hr; omega
  have hunord : ∀ (j : Nat) (q : DR), rs[j]? = some q → l.getD j false = true → i < j → ApartD r q := by
    intro j q hq hl hij
    obtain ⟨p, hp⟩ := W.leno hq
    have hjl := (List.getElem?_eq_some_iff.1 hp).1
    rcases noClash_out W.nc hij hr hq with h1 | h1
    · exact absurd h1 (X.nod j hjl hl)
    · exact apartD_out h1
  have hrange : r.n0 < r.n1 → (∀ v ∈ putsT (fun j => l.getD j false) 0 ops rs t0, avoid r.n0 r.n1 v = true) ∧
      ∀ b B, (putsH (fun j => l.getD j false) 0 rs h0).get b = some B → BAvoid r.n0 r.n1 B := by
    intro hlt
    refine ⟨fun v hv => ?_, fun b B hb => ?_⟩
    · rcases putsT_from 0 ops rs t0 hv with h1 | ⟨j, q, h1, _, h2, rfl⟩
      · exact avoid_bel ord.1 v (T0 v h1)
      · rw [Nat.zero_add] at h2
        have hji : j ≠ i := by rintro rfl; rw [X.no] at h2; cases h2
        rcases Nat.lt_or_gt_of_ne hji with h5 | h5
        · exact avoid_bel (ord.2.2.2 j q h5 h1) _ (I.upd j q h1 h2).v
        · exact ((hunord j q h1 h2 h5).v hlt).1
    · rcases putsH_from 0 rs h0 hb with h1 | ⟨j, q, h1, h2, h3⟩
      · exact BAvoid.of_bel ord.1 (R0.hbel b B h1)
      · rw [Nat.zero_add] at h2
        have hji : j ≠ i := by rintro rfl; rw [X.no] at h2; cases h2
        rcases Nat.lt_or_gt_of_ne hji with h5 | h5
        · exact BAvoid.of_bel (ord.2.2.2 j q h5 h1) ((I.upd j q h1 h2).b b B h3).1
        · exact ((hunord j q h1 h2 h5).v hlt).2 b B h3
  have hwl : Region.wanted o (yielded ops.toArray (actOf ρ (putsT (fun j => l.getD j false) 0 ops rs t0)).tmps) = wantedA ops.toArray o (putsT (fun j => Nat.blt j i) 0 ops rs t0) := by
    rw [wantedA_eq]; exact (wantedA_look fun τ hτ => W.looks X hτ).symm
  unfold wpOp
  have hoA : ops.toArray[i]? = some o := by simpa using X.ho
  simp only [hoA]
  rw [hwl]
  rcases RO.how with ⟨hw, ⟨T, hT, hq⟩, hst, _⟩ | ⟨hw, hF, hU, hV, hnn⟩
  · rw [hw, if_pos rfl]
    left
    -- the known part for this operation
    have hfoot := fun {b : Nat} {B : ABlk} (hb : r.F.get b = some B) => W.foot R0 X hr I.upd hb
    have hb0 : B0 ≤ r.n0 := Nat.le_trans R0.base ord.1
    have hFg : ∀ b B, (r.F ++ g : AHeap).get b = some B → r.F.get b = some B ∨ g.get b = some B := by
      intro b B hb
      rw [AHeap.get_append] at hb
      cases hf : r.F.get b with
      | some C => rw [hf] at hb; exact .inl hb
      | none => rw [hf] at hb; exact .inr (by simpa using hb)
    have Rop : Rel ρ (bif isStore o then g else r.F ++ g) (bif isStore o then r.F else []) r.n0 w := by
      cases hso : isStore o
      · simp only [cond_false]
        refine ⟨R.low, hb0, fun b B hb => ?_, fun b B hb => ?_, fun b b' B B' hb => ?_, fun b b' B B' hb => ?_, fun b B hb => ?_, fun b B hb => ?_, fun b B hb => ?_, fun b B hb => ?_, R.held, R.fix, Nat.le_trans R0.nroot ord.1, fun b B hb => by cases hb⟩
        · rcases hFg b B hb with h1 | h1
          · exact R.hat b B (hfoot h1).1
          · exact R.gat b B h1
        · cases hb
        · cases hb
        · cases hb
        · cases hb
        · rcases hFg b B hb with h1 | h1
          · exact (hfoot h1).2.1
          · have := R0.glt b B h1; omega
        · cases hb
        · rcases hFg b B hb with h1 | h1
          · exact (hfoot h1).2.2.1
          · exact (R0.gbel b B h1).mono ord.1
      · simp only [cond_true]
        exact ⟨R.low, hb0, R.gat, fun b B hb => R.hat b B (hfoot hb).1, fun b b' B B' h1 h2 => R.inj b b' B B' (hfoot h1).1 (hfoot h2).1, fun b b' B B' h1 h2 => R.dis b b' B B' (hfoot h1).1 h2,
          fun b B hb => ⟨(hfoot hb).2.2.2, (hfoot hb).2.1⟩, fun b B hb => Nat.lt_of_lt_of_le (R0.glt b B hb) ord.1, fun b B hb => (hfoot hb).2.2.1, fun b B hb => (R0.gbel b B hb).mono ord.1, R.held, R.fix, Nat.le_trans R0.nroot ord.1, fun b B hb => R.far b B (hfoot hb).1⟩
    have hOS := opD_sound hs hq
    rw [hT] at hOS
    refine hOS ρ w Rop (fun x hx hok => W.opsBel R0 T0 X hr I.upd hx hok) _ _ _ (fun x hx => ?_) ?_
    · refine eval_look (ops := ops.toArray) (fun τ hτ => ?_) hx
      have := W.looks X hτ
      simp only [actOf, Array.getElem?_map, this]
    · intro ρ' w' hbv R' S'
      have hin : ∀ b B, (bif isStore o then r.F else ([] : AHeap)).get b = some B → isStore o = true ∧ r.F.get b = some B := by
        intro b B hb
        cases hso : isStore o
        · rw [hso] at hb; cases hb
        · rw [hso] at hb; exact ⟨rfl, hb⟩
      let ρ2 : Nat → Nat := fun b => if r.n0 ≤ b ∧ b < r.n1 then ρ' b else ρ b
      have hag : ∀ b, b < r.n1 → ρ2 b = ρ' b := fun b hb => by
        show (if r.n0 ≤ b ∧ b < r.n1 then ρ' b else ρ b) = ρ' b
        by_cases h : r.n0 ≤ b
        · rw [if_pos ⟨h, hb⟩]
        · rw [if_neg (fun h2 => h h2.1)]; exact (S'.agree b (by omega)).symm
      have hout : ∀ b, b < r.n0 ∨ r.n1 ≤ b → ρ2 b = ρ b := fun b hb => by
        show (if r.n0 ≤ b ∧ b < r.n1 then ρ' b else ρ b) = ρ b
        rw [if_neg (fun h2 => by omega)]
      have hsame : ¬ r.n0 < r.n1 → ρ2 = ρ := fun h => funext fun b => hout b (by omega)
      have hvals : ∀ v ∈ putsT (fun j => l.getD j false) 0 ops rs t0, ren ρ2 v = ren ρ v := fun v hv => by
        by_cases hlt : r.n0 < r.n1
        · exact ren_avoid hout v ((hrange hlt).1 v hv)
        · rw [hsame hlt]
      have hblk : ∀ b B c u, (putsH (fun j => l.getD j false) 0 rs h0).get b = some B → BlkAt ρ u c B → BlkAt ρ2 u c B := fun b B c u hb hB => by
        by_cases hlt : r.n0 < r.n1
        · exact hB.avoid hout ((hrange hlt).2 b B hb)
        · rw [hsame hlt]; exact hB
      have hupd : UpdOk r := by
        refine ⟨hbv, fun c B hc => ⟨R'.hbel c B hc, (R'.lt c B hc).1, (R'.lt c B hc).2, ?_⟩⟩
        rcases Nat.lt_or_ge c r.n0 with h1 | h1
        · obtain ⟨C, hC⟩ := S'.old c B hc h1
          exact .inr ⟨C, (hin c C hC).2⟩
        · exact .inl h1
      have hupd' : ∀ (j : Nat) (q : DR), rs[j]? = some q → (l.setIfInBounds i true).getD j false = true → UpdOk q := by
        intro j q hjq hl
        by_cases hji : j = i
        · rw [hji, hr] at hjq; cases hjq; exact hupd
        · rw [hne j hji] at hl; exact I.upd j q hjq hl
      have key : ∀ b B, (putsH (fun j => (l.setIfInBounds i true).getD j false) 0 rs h0).get b = some B → r.upd.get b = some B ∨ (r.upd.get b = none ∧ (putsH (fun j => l.getD j false) 0 rs h0).get b = some B) := by
        intro b B hb
        cases hu : r.upd.get b with
        | none =>
          refine .inr ⟨rfl, ?_⟩
          rw [← hb]
          refine putsH_look 0 rs h0 h0 rfl fun j q hjq hj => ?_
          rw [Nat.zero_add] at hj
          by_cases hji : j = i
          · rw [hji, hr] at hjq; cases hjq; exact hu
          · exact absurd (hne j hji).symm hj
        | some C =>
          left
          rw [← hb]
          refine (putsH_self 0 rs h0 i hr (by rw [Nat.zero_add]; exact hL') hu fun k q hq hik hk => ?_).symm
          rw [Nat.zero_add, hne k (by omega)] at hk
          obtain ⟨p, hp⟩ := W.leno hq
          have hkl := (List.getElem?_eq_some_iff.1 hp).1
          exact W.apartU hr hq (by omega) (fun hd => by have := dep_lt hil hd; omega) (X.nod k hkl hk) hupd (I.upd k q hq hk) b C hu
      have hF : ∀ b B, r.F.get b = some B → (putsH (fun j => l.getD j false) 0 rs h0).get b = some B := fun b B hb => (hfoot hb).1
      -- an old block that is not written stands where it stood
      have hstay : ∀ b B, r.upd.get b = none → (putsH (fun j => l.getD j false) 0 rs h0).get b = some B → w'.heap[ρ b]? = w.heap[ρ b]? := by
        intro b B hu hb
        refine S'.keep (ρ b) (R.hat b B hb).lt fun c C hc he => ?_
        obtain ⟨hso, hC⟩ := hin c C hc
        have := R.inj c b C B (hF c C hC) hb he
        subst this
        have := hst hso c C hC
        rw [hu] at this; cases this
      have hgstay : ∀ b B, g.get b = some B → w'.heap[ρ b]? = w.heap[ρ b]? := by
        intro b B hb
        refine S'.keep (ρ b) (R.gat b B hb).lt fun c C hc he => ?_
        obtain ⟨hso, hC⟩ := hin c C hc
        exact R.dis c b C B (hF c C hC) hb he
      have hg2 : ∀ b B, g.get b = some B → ρ2 b = ρ b := fun b B hb => hout b (.inl (by have := R0.glt b B hb; omega))
      have hplace : ∀ b B, (putsH (fun j => (l.setIfInBounds i true).getD j false) 0 rs h0).get b = some B →
          (r.upd.get b = some B ∧ r.n0 ≤ b ∧ b < r.n1 ∧ ρ2 b = ρ' b ∧ w.heap.size ≤ ρ2 b) ∨ (∃ C, (putsH (fun j => l.getD j false) 0 rs h0).get b = some C ∧ ρ2 b = ρ b) := by
        intro b B hb
        rcases key b B hb with h1 | ⟨_, h1⟩
        · have hb1 := (R'.lt b B h1).2
          rcases Nat.lt_or_ge b r.n0 with h2 | h2
          · obtain ⟨C, hC⟩ := S'.old b B h1 h2
            exact .inr ⟨C, hF b C (hin b C hC).2, hout b (.inl h2)⟩
          · exact .inl ⟨h1, h2, hb1, hag b hb1, by rw [hag b hb1]; exact S'.new b B h1 h2⟩
        · exact .inr ⟨B, h1, hout b (hname b B h1)⟩
      refine ⟨hsize', hclosed', hupd', ρ2, ?_, ?_, ?_⟩
      · have e1 : ren ρ' r.v = ren ρ2 r.v := (ren_agree hag r.v hbv).symm
        have e2 : actOf ρ (putsT (fun j => l.getD j false) 0 ops rs t0) = actOf ρ2 (putsT (fun j => l.getD j false) 0 ops rs t0) := by
          unfold actOf; rw [Array.map_congr_left fun v hv => (hvals v hv).symm]
        show (actOf ρ _).put o.dst (ren ρ' r.v) = _
        rw [e1, e2, actOf_put, putsT_one W X.ho hr hL' hne]
      · refine ⟨fun b hb => ?_, R.base, fun b B hb => ?_, fun b B hb => ?_, fun b b' B B' h1 h2 he => ?_, fun b b' B B' h1 h2 => ?_, fun b B hb => ?_, R.glt, fun b B hb => ?_, R.gbel, R'.held, fun b hb => ?_, R.nroot, fun b B hb => ?_⟩
        · rw [hout b (.inl (by omega))]; exact R.low b hb
        · rw [hg2 b B hb]
          by_cases hlt : r.n0 < r.n1
          · exact ((R.gat b B hb).keep (hgstay b B hb)).avoid hout (BAvoid.of_bel ord.1 (R0.gbel b B hb))
          · rw [hsame hlt]; exact (R.gat b B hb).keep (hgstay b B hb)
        · rcases key b B hb with h1 | ⟨hu, h1⟩
          · have hb1 := (R'.lt b B h1).2
            rw [hag b hb1]; exact (R'.hat b B h1).agree hag (R'.hbel b B h1)
          · rw [hout b (hname b B h1)]
            exact hblk b B _ _ h1 ((R.hat b B h1).keep (hstay b B hu h1))
        · rcases hplace b B h1 with ⟨k1, k2, k3, k4, k5⟩ | ⟨C, k1, k2⟩ <;> rcases hplace b' B' h2 with ⟨m1, m2, m3, m4, m5⟩ | ⟨D, m1, m2⟩
          · rw [k4, m4] at he; exact R'.inj b b' B B' k1 m1 he
          · rw [m2] at he; have := (R.hat b' D m1).lt; omega
          · rw [k2] at he; have := (R.hat b C k1).lt; omega
          · rw [k2, m2] at he; exact R.inj b b' C D k1 m1 he
        · rw [hg2 b' B' h2]
          have hlt := (R.gat b' B' h2).lt
          rcases hplace b B h1 with ⟨k1, k2, k3, k4, k5⟩ | ⟨C, k1, k2⟩
          · omega
          · rw [k2]; exact R.dis b b' C B' k1 h2
        · rcases key b B hb with h1 | ⟨_, h1⟩
          · have h2 := R'.lt b B h1; exact ⟨h2.1, Nat.lt_of_lt_of_le h2.2 ord.2.2.1⟩
          · exact R.lt b B h1
        · rcases key b B hb with h1 | ⟨_, h1⟩
          · exact (R'.hbel b B h1).mono ord.2.2.1
          · exact R.hbel b B h1
        · rw [hout b (.inl (by have := R0.nroot; omega))]; exact R.fix b hb
        · rcases hplace b B hb with ⟨k1, k2, k3, k4, k5⟩ | ⟨C, k1, k2⟩
          · exact Nat.le_trans R.held.size k5
          · rw [k2]; exact R.far b C k1
      · refine ⟨S.le, fun b hb => ?_, fun b B hb hn => ?_, fun b B hb hn => ?_, Nat.le_trans S.size S'.size, S'.os.trans S.os, S'.tape.trans S.tape, S'.output.trans S.output, fun c hc hno => ?_⟩
        · rw [hout b (.inl (by omega))]; exact S.agree b hb
        · rcases hplace b B hb with ⟨k1, k2, k3, k4, k5⟩ | ⟨C, k1, k2⟩
          · omega
          · exact S.old b C k1 hn
        · rcases hplace b B hb with ⟨k1, k2, k3, k4, k5⟩ | ⟨C, k1, k2⟩
          · have := S.size; omega
          · rw [k2]; exact S.new b C k1 hn
        · refine (S'.keep c (by have := S.size; omega) fun b B hb he => ?_).trans (S.keep c hc hno)
          have h1 := hF b B (hin b B hb).2
          by_cases hbn : b < nx0
          · obtain ⟨C, hC⟩ := S.old b B h1 hbn
            exact hno b C hC (by rw [← S.agree b hbn]; exact he)
          · have := S.new b B h1 (by omega); omega
  · rw [hw, if_neg (by simp)]
    have hupd : UpdOk r := ⟨by rw [hV]; exact bel_undef _, fun c B hc => by rw [hU] at hc; cases hc⟩
    have hupd' : ∀ (j : Nat) (q : DR), rs[j]? = some q → (l.setIfInBounds i true).getD j false = true → UpdOk q := by
      intro j q hjq hl
      by_cases hji : j = i
      · rw [hji, hr] at hjq; cases hjq; exact hupd
      · rw [hne j hji] at hl; exact I.upd j q hjq hl
    have heq : ∀ b, (putsH (fun j => (l.setIfInBounds i true).getD j false) 0 rs h0).get b = (putsH (fun j => l.getD j false) 0 rs h0).get b := by
      intro b
      refine putsH_look 0 rs h0 h0 rfl fun j q hjq hj => ?_
      rw [Nat.zero_add] at hj
      by_cases hji : j = i
      · rw [hji, hr] at hjq; cases hjq; rw [hU]; rfl
      · exact absurd (hne j hji) hj
    refine ⟨hsize', hclosed', hupd', ρ, ?_, R.sub (fun b B hb => by rw [← heq]; exact hb) (fun _ _ hb => hb), S.alike heq⟩
    have := actOf_put (ρ := ρ) (t := putsT (fun j => l.getD j false) 0 ops rs t0) (d := o.dst) (v := undef)
    rw [ren_undef] at this
    rw [this, ← hV, putsT_one W X.ho hr hL' hne]

theorem ready_done {ops : List Oper} (hok : regOk ops = true) {l : Array Bool} (hsz : l.size = ops.length) (hr : Region.ready .any ops.toArray l = []) : ∀ i, i < ops.length → l.getD i false = true := by
  intro i
  induction i using Nat.strongRecOn with
  | _ i ih =>
    intro hi
    cases hl : l.getD i false
    · exfalso
      have : i ∈ Region.ready .any ops.toArray l := by
        refine mem_ready.2 ⟨?_, ops[i], by simp [hi], fun x hx hb => ?_⟩
        · simp only [Array.getD_eq_getD_getElem?] at hl ⊢
          rw [Array.getElem?_eq_getElem (by omega)] at hl ⊢
          exact hl
        · have hlt := regOk_edge hok (List.getElem?_eq_getElem hi) hx hb
          exact ih x.on hlt (by omega)
      rw [hr] at this; cases this
    · rfl

theorem drawT_sound (hs : Sound P e) (id : Nat) {t : FT} {h : AHeap} {nx : Nat} {st' : St} (hok : regOk ops = true) (hc : (drawT E e g ops t h nx).run = some st') {ρ : Nat → Nat} {w : World} (R : Rel ρ g h nx w) (ht : SWf t.arr nx) :
    (Code.region id ops.toArray true).wp P (Post g .normal st' ρ h nx w) (actOf ρ t.arr) w := by
  unfold drawT at hc
  simp only at hc
  obtain ⟨s, h1, hc⟩ := Tree.run_bind_out hc
  obtain ⟨hnc, hc⟩ := run_guardF hc
  cases hc
  have I := drawGo_out (nx0 := nx) (t0 := t.arr) ops 0 ⟨[], t, h, nx⟩ s h1 rfl ⟨rfl, (by cases ops <;> rfl), rfl, Nat.le_refl _, (fun j o r _ hr => by cases hr), (fun j r hr => by cases hr)⟩ (Nat.zero_le _)
  have W : Whole E e g ops h t.arr nx s.nx s.rs := ⟨hok, I.len, I.rok, I.ord, hnc⟩
  refine wp_region_any E.hmix ?_
  have hbase : Inv E e g ops h t.arr nx s.nx s.rs ρ w (Array.replicate ops.toArray.size false) (actOf ρ t.arr) w.drew := by
    have hf : ∀ j, (Array.replicate ops.toArray.size false).getD j false = false := fun j => by
      simp only [Array.getD_eq_getD_getElem?, Array.getElem?_replicate]; split <;> rfl
    have hT : putsT (fun j => (Array.replicate ops.toArray.size false).getD j false) 0 ops s.rs t.arr = t.arr := by
      apply Array.ext_getElem?
      intro τ
      exact putsT_stay 0 ops s.rs t.arr fun j o _ hj => by rw [hf] at hj; cases hj
    have hH : ∀ b, (putsH (fun j => (Array.replicate ops.toArray.size false).getD j false) 0 s.rs h).get b = h.get b := fun b =>
      putsH_stay 0 s.rs h fun j o _ hj => by rw [hf] at hj; cases hj
    have R2 := (R.drew).raise I.nx
    refine ⟨by simp, (fun i j _ hl => by rw [hf] at hl; cases hl), (fun j r _ hl => by rw [hf] at hl; cases hl), ρ, by rw [hT], R2.sub (fun b B hb => by rw [← hH]; exact hb) (fun _ _ hb => hb), ?_⟩
    have S0 : Step ρ h nx w ρ h s.nx w.drew := ⟨I.nx, fun _ _ => rfl, fun b B hb _ => ⟨B, hb⟩, fun b B hb hn => absurd (R.lt b B hb).2 (by omega), Nat.le_refl _, rfl, rfl, rfl, fun _ _ _ => rfl⟩
    exact S0.alike hH
  refine wpAny_inv (Inv := Inv E e g ops h t.arr nx s.nx s.rs ρ w) (fun l a w' I => by simpa using I.size) (fun l a w' i I hi => inv_step hs W R ht I hi) (fun l a w' J hr => ?_) ops.toArray.size _ _ _ ?_ hbase
  · have hall := ready_done hok J.size hr
    obtain ⟨ρ', ha, R', S'⟩ := J.world
    have eT : putsT (fun j => l.getD j false) 0 ops s.rs t.arr = s.t.arr := by
      rw [I.t]; exact putsT_congr 0 ops s.rs t.arr fun j _ h2 => by rw [Nat.zero_add, I.len] at h2; exact hall j h2
    have eH : putsH (fun j => l.getD j false) 0 s.rs h = s.H := by
      rw [I.H]; exact putsH_congr 0 s.rs h fun j _ h2 => by rw [Nat.zero_add, I.len] at h2; exact hall j h2
    rw [eT] at ha
    rw [eH] at R' S'
    refine ⟨rfl, ρ', ha, fun v hv => ?_, R', S'⟩
    have hv' : v ∈ putsT (fun _ => true) 0 ops s.rs t.arr := by rw [← I.t]; exact hv
    rcases putsT_from 0 ops s.rs t.arr hv' with h1 | ⟨j, q, h1, h2, _, rfl⟩
    · exact bel_mono I.nx v (ht v h1)
    · exact bel_mono (W.ord j q h1).2.2.1 _ (J.upd j q h1 (hall j h2)).v
  · unfold unl
    exact Nat.le_trans List.countP_le_length (by simp)
end
end
end Go.Den

/-
  Code and calls, read to a depth; the theorem: what is read of a call, the call does.
-/
namespace Go.Den
open Go.RowKit
noncomputable section
set_option linter.unusedSectionVars false
variable [Inhabited Root] [Inhabited Names]

def cok : Code → Bool
  | .region _ ops draw => !draw || regOk ops.toList
  | .seq a b => cok a && cok b
  | .cond _ a b => cok a && cok b
  | .block _ c => cok c
  | .loop c => cok c
  | .scope c => cok c
  | _ => true

section
variable {P : Program} (E : Env P) (e : Ev)
def getF (t : FT) (i : Nat) : Value := evF t (.tmp i)
theorem getF_eq (t : FT) (i : Nat) : getF t i = t.arr.getD i undef := by
  unfold getF; rw [evF_eq]; rfl
def resA (P : Program) (g : AHeap) (t : FT) (h : AHeap) : ResultVar → Option Value
  | .tmp i => some (getF t i)
  | .cell a ty => match getF t a with
    | .pointer (some x) => aload P g h ty x
    | _ => none
def resL (P : Program) (g : AHeap) (t : FT) (h : AHeap) : List ResultVar → Option (List Value)
  | [] => some []
  | x :: r => match resA P g t h x, resL P g t h r with
    | some v, some vs => some (v :: vs)
    | _, _ => none
def resultsA (P : Program) (g : AHeap) (fn : Func) (t : FT) (h : AHeap) : Option Value :=
  match resL P g t h fn.results.toList with
  | some [v] => some v
  | some vs => some (.tuple vs.toArray)
  | none => none
def regionC (g : AHeap) (ops : List Oper) (draw : Bool) (st : St) : Tree (Exit × St) :=
  (match draw with
    | true => drawT E e g ops st.tmps st.h st.nx
    | false => seqT E e g ops ops st.tmps st.h st.nx).bind fun s => .leaf (.normal, s)
def seqC (g : AHeap) (b : Code) (r : Exit × St) : Tree (Exit × St) :=
  match r.1 with
  | .normal => e.code g b r.2
  | _ => .leaf r
def condC (g : AHeap) (x : Operand) (a b : Code) (st : St) : Tree (Exit × St) :=
  bif opndOk x then
    match evF st.tmps x with
    | .bool t => brF E.frc t (e.code g a st) (e.code g b st)
    | _ => .fail
  else .fail
def blockC (id : Nat) (r : Exit × St) : Tree (Exit × St) :=
  match r.1 with
  | .exit id' => bif Nat.beq id' id then .leaf (.normal, r.2) else .leaf r
  | _ => .leaf r
def scopeC (r : Exit × St) : Tree (Exit × St) :=
  match r.1 with
  | .goto _ => .fail
  | _ => .leaf r
/-- What a piece of code does, told of its text alone. -/
structure HdC where
  run : Ev → AHeap → St → Tree (Exit × St)
def cdl (c : Code) : HdC :=
  match c with
  | .skip => ⟨fun _ _ st => .leaf (.normal, st)⟩
  | .label _ => ⟨fun _ _ st => .leaf (.normal, st)⟩
  | .region _ ops draw => ⟨fun e g st => regionC E e g ops.toList draw st⟩
  | .seq a b => ⟨fun e g st => (e.code g a st).bind (seqC e g b)⟩
  | .cond x a b => ⟨fun e g st => condC E e g x a b st⟩
  | .block id c => ⟨fun e g st => (e.code g c st).bind (blockC id)⟩
  | .loop c => ⟨fun e g st => (e.code g c st).bind (seqC e g (.loop c))⟩
  | .exit id => ⟨fun _ _ st => .leaf (.exit id, st)⟩
  | .ret => ⟨fun _ _ st => .leaf (.ret, st)⟩
  | .scope c => ⟨fun e g st => (e.code g c st).bind scopeC⟩
  | _ => ⟨fun _ _ _ => .fail⟩
def codeStep (g : AHeap) (c : Code) (st : St) : Tree (Exit × St) := (cdl E c).run e g st
def retC (g : AHeap) (fn : Func) (st : St) : Tree VR :=
  match resultsA P g fn st.tmps st.h with
  | some v => normV E.frc v fun v => .leaf ⟨v, st.h, st.nx⟩
  | none => .fail
def doneC (g : AHeap) (fn : Func) (r : Exit × St) : Tree VR :=
  match r.1 with
  | .normal => retC E g fn r.2
  | .ret => retC E g fn r.2
  | _ => .fail
def callStep (g : AHeap) (f : FuncId) (args : Array Value) (h : AHeap) (nx : Nat) : Tree VR :=
  match P.funcs[f]? with
  | some fn => match fn.body with
    | some c => bif Nat.ble (args.toList.length + (fn.ntmps - args.toList.length)) roof then startK args.toList fn.ntmps fun t => (e.code g c ⟨t, h, nx⟩).bind (doneC E g fn) else .fail
    | none => .fail
  | none => .fail
def ev (n : Nat) : Ev :=
  Nat.rec (motive := fun _ => Ev) ⟨fun _ _ _ => .fail, fun _ _ _ _ _ => .fail⟩ (fun _ e => ⟨codeStep E e, callStep E e⟩) n
end

section
variable {P : Program} {E : Env P} {e : Ev} {ρ : Nat → Nat} {g h : AHeap} {nx : Nat} {w : World}
theorem getD_ren (t : Array Value) (i : Nat) : (t.map (ren ρ)).getD i undef = ren ρ (t.getD i undef) := by
  simp only [Array.getD_eq_getD_getElem?, Array.getElem?_map]
  cases t[i]? with
  | none => simp [ren_undef]
  | some v => rfl
theorem getD_bel {t : Array Value} (ht : SWf t nx) (i : Nat) : bel nx (t.getD i undef) = true := by
  rw [Array.getD_eq_getD_getElem?]
  by_cases hi : i < t.size
  · rw [Array.getElem?_eq_getElem hi]; exact ht _ (Array.getElem_mem hi)
  · rw [Array.getElem?_eq_none (by omega)]; exact bel_undef _
def resC (t : Array Value) (x : ResultVar) : Sem Value :=
  match x with
  | .tmp i => pure (t.getD i undef)
  | .cell a ty => do loadVar ty (← asAddr (t.getD a undef))
theorem results_eq (fn : Func) (t : Array Value) : results fn t = (do let vs ← fn.results.mapM (resC t); pure (if hh : vs.size = 1 then vs[0] else .tuple vs)) := rfl
theorem run_resA (R : Rel ρ g h nx w) {t : FT} (ht : SWf t.arr nx) {x : ResultVar} {v : Value} (hv : resA P g t h x = some v) :
    (resC (t.arr.map (ren ρ)) x).run P w = .ok (ren ρ v) w ∧ bel nx v = true := by
  cases x with
  | tmp i =>
    simp only [resA, getF_eq] at hv
    cases hv
    exact ⟨by unfold resC; simp only [getD_ren]; rfl, getD_bel ht i⟩
  | cell a ty =>
    unfold resA at hv
    simp only [getF_eq] at hv
    split at hv
    · rename_i ad had
      obtain ⟨h1, h2⟩ := run_aload R hv
      refine ⟨?_, h2⟩
      unfold resC
      simp only [getD_ren, had, ren, asAddr, Sem.run_bind, Sem.run_pure, Result.andThen_ok]
      exact h1
    · cases hv
theorem run_resL (R : Rel ρ g h nx w) {t : FT} (ht : SWf t.arr nx) : ∀ (l : List ResultVar) (vs : List Value), resL P g t h l = some vs →
    (l.mapM (resC (t.arr.map (ren ρ)))).run P w = .ok (vs.map (ren ρ)) w ∧ ∀ v ∈ vs, bel nx v = true
  | [], vs, hv => by cases hv; exact ⟨by simp, by simp⟩
  | x :: r, vs, hv => by
    unfold resL at hv
    split at hv
    · rename_i v us h1 h2
      cases hv
      obtain ⟨a1, a2⟩ := run_resA R ht h1
      obtain ⟨b1, b2⟩ := run_resL R ht r us h2
      refine ⟨?_, fun y hy => ?_⟩
      · rw [List.mapM_cons, Sem.run_bind, a1, Result.andThen_ok, Sem.run_bind, b1]; rfl
      · rcases List.mem_cons.1 hy with rfl | hy
        · exact a2
        · exact b2 y hy
    · cases hv
theorem run_resultsA (R : Rel ρ g h nx w) {t : FT} (ht : SWf t.arr nx) {fn : Func} {v : Value} (hv : resultsA P g fn t h = some v) :
    (results fn (t.arr.map (ren ρ))).run P w = .ok (ren ρ v) w ∧ bel nx v = true := by
  unfold resultsA at hv
  have key : ∀ vs, resL P g t h fn.results.toList = some vs → (results fn (t.arr.map (ren ρ))).run P w = .ok (if hh : (vs.map (ren ρ)).toArray.size = 1 then (vs.map (ren ρ)).toArray[0] else .tuple (vs.map (ren ρ)).toArray) w ∧ ∀ v ∈ vs, bel nx v = true := by
    intro vs h1
    obtain ⟨a1, a2⟩ := run_resL R ht _ vs h1
    refine ⟨?_, a2⟩
    rw [results_eq, Array.mapM_eq_mapM_toList, Sem.run_bind, Sem.run_map, a1]
    rfl
  split at hv
  · rename_i v' h1
    cases hv
    obtain ⟨a1, a2⟩ := key _ h1
    exact ⟨a1, a2 _ (by simp)⟩
  · rename_i vs hne h1
    cases hv
    obtain ⟨a1, a2⟩ := key _ h1
    refine ⟨?_, by rw [bel_tuple]; intro v hv; exact a2 v (by simpa using hv)⟩
    rw [a1, dif_neg]
    · rw [ren_tuple]; simp
    · intro hs
      simp only [List.size_toArray, List.length_map] at hs
      obtain ⟨y, rfl⟩ := List.length_eq_one_iff.1 hs
      exact hne y rfl
  · cases hv

/-- As 'wp', but that a loop begins with a round. -/
def cwp (P : Program) (c : Code) (Q : Exit → Act → World → Prop) (a : Act) (w : World) : Prop :=
  match c with
  | .loop b => ∀ (f : Frame) (k : List Item) (cs : List Frame), ∃ e a' w', Q e a' w' ∧ Arrives P (lone (f.at a (.code b :: .inLoop b :: k)) cs w) f k cs e a' w'
  | c => c.wp P Q a w
theorem cwp_wp {c : Code} {Q : Exit → Act → World → Prop} {a : Act} (h : cwp P c Q a w) : c.wp P Q a w := by
  unfold cwp at h
  split at h
  · intro f k cs
    obtain ⟨e, a', w', hq, harr⟩ := h f k cs
    exact ⟨e, a', w', hq, .of_steps (.one step_loop) harr⟩
  · exact h
theorem cwp_loop {b : Code} {Q : Exit → Act → World → Prop} {a : Act} (h : b.wp P (Exit.then (fun a w => cwp P (.loop b) Q a w) Q) a w) : cwp P (.loop b) Q a w := by
  intro f k cs
  obtain ⟨e, a₁, w₁, hq, harr⟩ := h f (.inLoop b :: k) cs
  cases e with
  | normal =>
    obtain ⟨e₂, a₂, w₂, hq₂, harr₂⟩ := hq f k cs
    exact ⟨e₂, a₂, w₂, hq₂, .of_steps (Steps.trans harr (.one step_inLoop)) harr₂⟩
  | exit id => exact ⟨_, a₁, w₁, hq, .pass (x := .inLoop b) rfl (fun _ _ => .inl (by simp)) harr⟩
  | goto l => exact ⟨_, a₁, w₁, hq, .pass (x := .inLoop b) rfl (fun _ _ => .inl (by simp)) harr⟩
  | ret => exact ⟨_, a₁, w₁, hq, .pass (x := .inLoop b) rfl (fun _ _ => .inl (by simp)) harr⟩
  | panic ch => exact ⟨_, a₁, w₁, hq, .pass (x := .inLoop b) rfl (fun _ _ => .inl (by simp)) harr⟩
  | outgrown => exact ⟨_, a₁, w₁, hq, .pass (x := .inLoop b) rfl (fun _ _ => .inl (by simp)) harr⟩
theorem cwp_of {c : Code} {Q : Exit → Act → World → Prop} {a : Act} (hn : ∀ b, c ≠ .loop b) (h : c.wp P Q a w) : cwp P c Q a w := by
  unfold cwp
  split
  · exact absurd rfl (hn _)
  · exact h
def SatCode (P : Program) (g : AHeap) (c : Code) (st : St) (x : Exit) (st' : St) : Prop :=
  ∀ ρ w, Rel ρ g st.h st.nx w → SWf st.tmps.arr st.nx → cwp P c (Post g x st' ρ st.h st.nx w) (actOf ρ st.tmps.arr) w
structure SoundC (P : Program) (e : Ev) : Prop extends Sound P e where
  code : ∀ g c st r, cok c = true → (e.code g c st).run = some r → SatCode P g c st r.1 r.2
theorem Post.trans {x : Exit} {st' : St} {ρ' : Nat → Nat} {h' : AHeap} {nx' : Nat} {w' : World} (S : Step ρ h nx w ρ' h' nx' w') {e : Exit} {a : Act} {u : World} (hp : Post g x st' ρ' h' nx' w' e a u) : Post g x st' ρ h nx w e a u := by
  obtain ⟨h1, ρ2, h2, h3, h4, h5⟩ := hp
  exact ⟨h1, ρ2, h2, h3, h4, S.trans h5⟩
theorem codeStep_sound (hs : SoundC P e) {c : Code} {st : St} {r : Exit × St} (hok : cok c = true) (hc : (codeStep E e g c st).run = some r) : SatCode P g c st r.1 r.2 := by
  intro ρ w R ht
  have here : ∀ x, Post g x st ρ st.h st.nx w x (actOf ρ st.tmps.arr) w := fun x => ⟨rfl, ρ, rfl, ht, R, R.step⟩
  unfold codeStep cdl at hc
  split at hc
  · cases hc; exact cwp_of (by intro b h; cases h) (wp_skip (here _))
  · cases hc; exact cwp_of (by intro b h; cases h) (wp_label (here _))
  · rename_i id ops draw
    refine cwp_of (by intro b h; cases h) ?_
    unfold regionC at hc
    obtain ⟨s, h1, hc2⟩ := Tree.run_bind_out hc
    clear hc
    cases draw
    · simp only at h1
      cases hc2
      exact wp_region_list (by simpa using seqT_sound hs.toSound ops.toList ops.toList _ _ _ s h1 ρ w R ht)
    · simp only at h1
      cases hc2
      have := drawT_sound (ops := ops.toList) hs.toSound id (by simpa [cok] using hok) h1 R ht
      simpa using this
  · rename_i a b
    simp only [cok, Bool.and_eq_true] at hok
    refine cwp_of (by intro b h; cases h) (wp_seq ?_)
    obtain ⟨s, h1, hc⟩ := Tree.run_bind_out hc
    refine wp_mono (cwp_wp (hs.code g a st s hok.1 h1 ρ w R ht)) ?_
    rintro x a' w' ⟨rfl, ρ', rfl, ht', R', S⟩
    obtain ⟨x, s'⟩ := s
    cases x with
    | normal =>
      exact wp_mono (cwp_wp (hs.code g b s' r hok.2 hc ρ' w' R' ht')) fun x a u hp => hp.trans S
    | exit id => cases hc; exact ⟨rfl, ρ', rfl, ht', R', S⟩
    | goto l => cases hc; exact ⟨rfl, ρ', rfl, ht', R', S⟩
    | ret => cases hc; exact ⟨rfl, ρ', rfl, ht', R', S⟩
    | panic ch => cases hc; exact ⟨rfl, ρ', rfl, ht', R', S⟩
    | outgrown => cases hc; exact ⟨rfl, ρ', rfl, ht', R', S⟩
  · rename_i x a b
    simp only [cok, Bool.and_eq_true] at hok
    unfold condC at hc
    simp only [evF_eq] at hc
    cases hx : opndOk x <;> simp only [hx, cond_true, cond_false] at hc
    · cases hc
    split at hc
    · rename_i t htv
      have hev : (actOf ρ st.tmps.arr).eval x = .bool t := by rw [actOf_eval R hx, htv]; rfl
      refine cwp_of (by intro b h; cases h) (wp_cond hev ?_)
      rcases run_brF hc with ⟨rfl, hc2⟩ | ⟨rfl, hc2⟩
      · exact cwp_wp (hs.code g a st r hok.1 hc2 ρ w R ht)
      · exact cwp_wp (hs.code g b st r hok.2 hc2 ρ w R ht)
    · cases hc
  · rename_i id c
    simp only [cok] at hok
    refine cwp_of (by intro b h; cases h) (wp_block ?_)
    obtain ⟨s, h1, hc⟩ := Tree.run_bind_out hc
    refine wp_mono (cwp_wp (hs.code g c st s hok h1 ρ w R ht)) ?_
    rintro x a' w' ⟨rfl, ρ', rfl, ht', R', S⟩
    obtain ⟨x, s'⟩ := s
    cases x with
    | exit id' =>
      simp only [blockC] at hc
      simp only [Exit.inBlock]
      cases hb : Nat.beq id' id <;> simp only [hb, cond_true, cond_false] at hc
      · cases hc
        have hne : ¬ id' = id := fun he => by rw [he] at hb; simp at hb
        rw [if_neg hne]; exact ⟨rfl, ρ', rfl, ht', R', S⟩
      · cases hc
        rw [Nat.beq_eq] at hb
        rw [if_pos hb]; exact ⟨rfl, ρ', rfl, ht', R', S⟩
    | normal => cases hc; exact ⟨rfl, ρ', rfl, ht', R', S⟩
    | goto l => cases hc; exact ⟨rfl, ρ', rfl, ht', R', S⟩
    | ret => cases hc; exact ⟨rfl, ρ', rfl, ht', R', S⟩
    | panic ch => cases hc; exact ⟨rfl, ρ', rfl, ht', R', S⟩
    | outgrown => cases hc; exact ⟨rfl, ρ', rfl, ht', R', S⟩
  · rename_i c
    have hok' := hok
    simp only [cok] at hok
    refine cwp_loop ?_
    obtain ⟨s, h1, hc⟩ := Tree.run_bind_out hc
    refine wp_mono (cwp_wp (hs.code g c st s hok h1 ρ w R ht)) ?_
    rintro x a' w' ⟨rfl, ρ', rfl, ht', R', S⟩
    obtain ⟨x, s'⟩ := s
    cases x with
    | normal =>
      intro f k cs
      obtain ⟨e, a2, w2, hq, harr⟩ := hs.code g (.loop c) s' r hok' hc ρ' w' R' ht' f k cs
      exact ⟨e, a2, w2, hq.trans S, harr⟩
    | exit id => cases hc; exact ⟨rfl, ρ', rfl, ht', R', S⟩
    | goto l => cases hc; exact ⟨rfl, ρ', rfl, ht', R', S⟩
    | ret => cases hc; exact ⟨rfl, ρ', rfl, ht', R', S⟩
    | panic ch => cases hc; exact ⟨rfl, ρ', rfl, ht', R', S⟩
    | outgrown => cases hc; exact ⟨rfl, ρ', rfl, ht', R', S⟩
  · cases hc; exact cwp_of (by intro b h; cases h) (wp_exit (here _))
  · cases hc; exact cwp_of (by intro b h; cases h) (wp_ret (here _))
  · rename_i c
    simp only [cok] at hok
    refine cwp_of (by intro b h; cases h) (wp_scope_straight ?_)
    obtain ⟨s, h1, hc⟩ := Tree.run_bind_out hc
    refine wp_mono (cwp_wp (hs.code g c st s hok h1 ρ w R ht)) ?_
    rintro x a' w' ⟨rfl, ρ', rfl, ht', R', S⟩
    obtain ⟨x, s'⟩ := s
    cases x with
    | goto l => cases hc
    | normal => cases hc; exact ⟨rfl, ρ', rfl, ht', R', S⟩
    | exit id => cases hc; exact ⟨rfl, ρ', rfl, ht', R', S⟩
    | ret => cases hc; exact ⟨rfl, ρ', rfl, ht', R', S⟩
    | panic ch => cases hc; exact ⟨rfl, ρ', rfl, ht', R', S⟩
    | outgrown => cases hc; exact ⟨rfl, ρ', rfl, ht', R', S⟩
  · cases hc
theorem callStep_sound (hs : SoundC P e) (hcok : ∀ (f : Nat) fn c, P.funcs[f]? = some fn → fn.body = some c → cok c = true) {f : FuncId} {args : Array Value} {r : VR} (hc : (callStep E e g f args h nx).run = some r) :
    SatCall P g f args h nx r ∧ (P.funcs[f]?.bind (·.body)).isSome = true := by
  unfold callStep at hc
  split at hc
  · rename_i fn hf
    split at hc
    · rename_i c hb
      cases hle : Nat.ble (args.toList.length + (fn.ntmps - args.toList.length)) roof <;> simp only [hle, cond_true, cond_false] at hc
      · cases hc
      rw [startK_eq] at hc
      have e1 : (start args.toList fn.ntmps).arr = args ++ Array.replicate (fn.ntmps - args.size) undef := by
        rw [start_arr _ _ (by rwa [Nat.ble_eq] at hle)]
        apply Array.toList_inj.1; simp
      refine ⟨fun ρ w R ha => ?_, by rw [hf]; simp [hb]⟩
      obtain ⟨s, h1, hc⟩ := Tree.run_bind_out hc
      have hst : SWf (start args.toList fn.ntmps).arr nx := by
        rw [e1]
        intro v hv
        rcases Array.mem_append.1 hv with hv | hv
        · exact ha v hv
        · rw [(Array.mem_replicate.1 hv).2]; exact bel_undef _
      have hact : (⟨args.map (ren ρ) ++ Array.replicate (fn.ntmps - (args.map (ren ρ)).size) undef, []⟩ : Act) = actOf ρ (start args.toList fn.ntmps).arr := by
        rw [e1]; unfold actOf; rw [Array.map_append, Array.map_replicate, ren_undef, Array.size_map]
      have key : ∀ v, resultsA P g fn s.2.tmps s.2.h = some v → r = ⟨v, s.2.h, s.2.nx⟩ → ∀ a' w', Post g s.1 s.2 ρ h nx w s.1 a' w' →
          a'.defers = [] ∧ ∃ u, (results fn a'.tmps).run P w' = .ok u w' ∧ (∃ ρ', Ending.returned u = .returned (ren ρ' r.v) ∧ bel r.nx r.v = true ∧ Rel ρ' g r.h r.nx w' ∧ Step ρ h nx w ρ' r.h r.nx w') := by
        rintro v hv rfl a' w' ⟨_, ρ', rfl, ht', R', S⟩
        obtain ⟨a1, a2⟩ := run_resultsA R' ht' hv
        exact ⟨rfl, _, a1, ρ', rfl, a2, R', S⟩
      refine calls_of_wp hf hb ?_
      rw [hact]
      refine wp_mono (cwp_wp (hs.code g c _ s (hcok f fn c hf hb) h1 ρ w R hst)) ?_
      intro x a' w' hp
      obtain ⟨rfl, hp'⟩ := hp
      obtain ⟨x, s'⟩ := s
      cases x with
      | normal =>
        simp only [doneC, retC] at hc
        split at hc
        · rename_i v hv
          rw [normV_run] at hc
          cases hc; exact key v hv rfl a' w' ⟨rfl, hp'⟩
        · cases hc
      | ret =>
        simp only [doneC, retC] at hc
        split at hc
        · rename_i v hv
          rw [normV_run] at hc
          cases hc; exact key v hv rfl a' w' ⟨rfl, hp'⟩
        · cases hc
      | exit id => cases hc
      | goto l => cases hc
      | panic ch => cases hc
      | outgrown => cases hc
    · cases hc
  · cases hc
theorem ev_sound (E : Env P) (hcok : ∀ (f : Nat) fn c, P.funcs[f]? = some fn → fn.body = some c → cok c = true) : ∀ n, SoundC P (ev E n)
  | 0 => { call := fun _ _ _ _ _ _ h => (by cases h), code := fun _ _ _ _ _ h => (by cases h) }
  | n + 1 => { call := fun _ _ _ _ _ _ h => callStep_sound (ev_sound E hcok n) hcok h, code := fun _ _ _ _ hok h => codeStep_sound (ev_sound E hcok n) hok h }
end
end
end Go.Den

/-
  Functions without a Go body, as they are read; and from a reading to a call.
-/
namespace Go.Den
open Go.RowKit
noncomputable section

/-- math/bits.Add64. -/
def add64A : Array Value → Option (Bool × Value)
  | ⟨[.int .u64 x, .int .u64 y, .int .u64 c]⟩ => some (decide (0 ≤ c) && (decide (c ≤ 1) && (decide (0 ≤ x) && decide (0 ≤ y))),
      .tuple #[.int .u64 ((x + y + c) % 18446744073709551616), .int .u64 ((x + y + c) / 18446744073709551616)])
  | _ => none
/-- math/bits.Sub64. -/
def sub64A : Array Value → Option (Bool × Value)
  | ⟨[.int .u64 x, .int .u64 y, .int .u64 b]⟩ => some (decide (0 ≤ b) && (decide (b ≤ 1) && (decide (0 ≤ x) && (decide (0 ≤ y) && decide (y ≤ 18446744073709551615)))),
      .tuple #[.int .u64 ((x - y - b) % 18446744073709551616), .int .u64 (if x < y + b then 1 else 0)])
  | _ => none
section
variable {P : Program} {f : FuncId} {fn : Func}
theorem add64_ext (hf : P.funcs[f]? = some fn) (hn : (fn.name == "runtime.NumGoroutine") = false) (hb : fn.body.isNone = true) (h1 : Extern.findNext fn = none) (h2 : Extern.find fn = some Go.add64Entry)
    {args : Array Value} {r : Bool × Value} (hr : add64A args = some r) (hok : r.1 = true) : bel B0 r.2 = true ∧ ∀ w, (callFunc f args).run P w = .ok (.value r.2) w := by
  unfold add64A at hr
  split at hr
  · rename_i x y c
    cases hr
    simp only [Bool.and_eq_true, decide_eq_true_eq] at hok
    refine ⟨rfl, fun w => ?_⟩
    rw [run_callFunc_extern hf hn hb h1 h2, Go.run_add64 x y c hok.2.2.1 hok.2.2.2 hok.1 hok.2.1]
    rfl
  · cases hr
theorem sub64_ext (hf : P.funcs[f]? = some fn) (hn : (fn.name == "runtime.NumGoroutine") = false) (hb : fn.body.isNone = true) (h1 : Extern.findNext fn = none) (h2 : Extern.find fn = some Go.Proofs.sub64Entry)
    {args : Array Value} {r : Bool × Value} (hr : sub64A args = some r) (hok : r.1 = true) : bel B0 r.2 = true ∧ ∀ w, (callFunc f args).run P w = .ok (.value r.2) w := by
  unfold sub64A at hr
  split at hr
  · rename_i x y b
    cases hr
    simp only [Bool.and_eq_true, decide_eq_true_eq] at hok
    refine ⟨rfl, fun w => ?_⟩
    obtain ⟨p4, p5, p1, p2, p3⟩ := hok
    obtain ⟨x, rfl⟩ := Int.eq_ofNat_of_zero_le p1
    obtain ⟨y, rfl⟩ := Int.eq_ofNat_of_zero_le p2
    obtain ⟨b, rfl⟩ := Int.eq_ofNat_of_zero_le p4
    rw [run_callFunc_extern hf hn hb h1 h2, Go.Proofs.run_sub64 x y b (by omega)]
    simp only [Result.andThen]
    have e1 : (((x + 18446744073709551616 - y - b) % 18446744073709551616 : Nat) : Int) = ((x : Int) - y - b) % 18446744073709551616 := by omega
    have e2 : ((if x < y + b then 1 else 0 : Nat) : Int) = if (x : Int) < y + b then 1 else 0 := by
      by_cases h : x < y + b
      · rw [if_pos h, if_pos (by omega)]; rfl
      · rw [if_neg h, if_neg (by omega)]; rfl
    rw [e1, e2]
  · cases hr
end
/-- What is read of a call whose arguments, and whose value, bear no addresses. -/
theorem calls_readK {P : Program} [Inhabited Root] (E : Env P) (hcok : ∀ (f : Nat) fn c, P.funcs[f]? = some fn → fn.body = some c → cok c = true) (n : Nat) {f : FuncId} {args : Array Value} {v : Value}
    (hr : (((ev E n).call [] f args [] B0).run.map (·.v)) = some v) (ha : args.all (bel B0) = true) (hv : bel B0 v = true) (w : World) (hw : Held w) : Calls P f args w fun e w' => e = .returned v ∧ Below w.heap.size w w' := by
  cases hq : ((ev E n).call [] f args [] B0).run with
  | none => rw [hq] at hr; cases hr
  | some r =>
    rw [hq] at hr
    simp only [Option.map_some, Option.some.injEq] at hr
    subst hr
    obtain ⟨h1, _⟩ := (ev_sound E hcok n).call _ _ _ _ _ _ hq
    have R : Rel id [] [] B0 w := Rel.initK hw
    have hargs : ∀ v ∈ args, bel B0 v = true := Array.all_eq_true_iff_forall_mem.1 ha
    have h2 := h1 id w R hargs
    rw [map_low R hargs] at h2
    refine h2.mono ?_
    rintro e w' ⟨ρ', rfl, hb, R', S⟩
    exact ⟨by rw [ren_id R'.low r.v hv], ⟨S.os, S.tape, S.output, S.size, fun k hk => S.none_keep k hk⟩⟩
theorem calls_read {P : Program} (E : Env P) (hcok : ∀ (f : Nat) fn c, P.funcs[f]? = some fn → fn.body = some c → cok c = true) (n : Nat) {f : FuncId} {args : Array Value} {v : Value}
    (hr : (((ev E n).call [] f args [] B0).run.map (·.v)) = some v) (ha : args.all (bel B0) = true) (hv : bel B0 v = true) (w : World) : Calls P f args w fun e w' => e = .returned v ∧ Below w.heap.size w w' :=
  @calls_readK P trivRoot E hcok n f args v hr ha hv w (held_triv w)
theorem eq_of_all {p : Func → Bool} {P : Program} (h : P.funcs.all p = true) {f : Nat} {fn : Func} (hf : P.funcs[f]? = some fn) : p fn = true :=
  (Array.all_eq_true_iff_forall_mem.1 h) fn (Array.mem_of_getElem? hf)
end
end Go.Den

/-
  Contracts as oracles of a reading; what must hold, as one proposition.
-/
namespace Go.Den
open Go.RowKit
noncomputable section

theorem holds_leaf {α : Type} {Q : α → Prop} {a : α} : (Tree.leaf a).holds Q = Q a := rfl
theorem bcase_t {p q : Prop} : bcase true p q = p := rfl
theorem bcase_in {b : Bool} {p q : Prop} (hp : b = true → p) (hq : b = false → q) : bcase b p q := by
  cases b
  · exact hq rfl
  · exact hp rfl
theorem all_bel {n : Nat} {l : List Value} (h : belL n l = true) : (⟨l⟩ : Array Value).all (bel n) = true := by
  rw [belL_eq] at h; simpa using h
variable [Inhabited Root] [Inhabited Names]
/-- The same contract for every call of a function whose arguments are as told: nothing old turns. -/
structure PC (P : Program) where
  f : FuncId
  spec : Array Value → Option (Bool × Value)
  body : (P.funcs[f]?.bind (·.body)).isSome = true
  ok : ∀ args r, spec args = some r → r.1 = true → args.all (bel B0) = true ∧ bel B0 r.2 = true ∧ ∀ w, Calls P f args w fun e w' => e = .returned r.2 ∧ Below w.heap.size w w'
def orcOf {P : Program} : List (PC P) → FuncId → Array Value → AHeap → Nat → Option (Tree VR)
  | [], _, _, _, _ => none
  | c :: r, f, args, h, nx => bif Nat.beq c.f f then
      match c.spec args with
      | some q => some (.br q.1 (.leaf ⟨q.2, h, nx⟩) .fail)
      | none => orcOf r f args h nx
    else orcOf r f args h nx
theorem orcOf_sound {P : Program} {g h : AHeap} {nx : Nat} : ∀ (l : List (PC P)) (f : FuncId) (args : Array Value) (t : Tree VR) (r : VR), orcOf l f args h nx = some t → t.run = some r →
    SatCall P g f args h nx r ∧ (P.funcs[f]?.bind (·.body)).isSome = true
  | [], _, _, _, _, ho, _ => by cases ho
  | c :: l, f, args, t, r, ho, hr => by
    unfold orcOf at ho
    simp only [cond_eq_ite, Nat.beq_eq] at ho
    split at ho
    · rename_i hf
      split at ho
      · rename_i q hq
        cases ho
        obtain ⟨hok, hr⟩ := Tree.run_guard hr
        cases hr
        obtain ⟨h1, h2, h3⟩ := c.ok args q hq hok
        subst hf
        refine ⟨fun ρ w R ha => ?_, c.body⟩
        have hlow : ∀ v ∈ args, bel B0 v = true := Array.all_eq_true_iff_forall_mem.1 h1
        rw [map_low R hlow]
        refine (h3 w).mono ?_
        rintro e w' ⟨rfl, hb⟩
        refine ⟨ρ, by rw [ren_low R h2], bel_low R h2, R.later (fun _ _ => rfl) fun k hk => hb.block k hk,
          ⟨Nat.le_refl _, fun _ _ => rfl, fun b B hb' _ => ⟨B, hb'⟩, fun b B hb' hn => absurd (R.lt b B hb').2 (by omega), hb.size, hb.os, hb.tape, hb.output, fun k hk _ => hb.block k hk⟩⟩
      · exact orcOf_sound l f args t r ho hr
    · exact orcOf_sound l f args t r ho hr
/-- The same reading with other oracles. -/
def Env.with {P : Program} (E : Env P) (fr : Bool) (l : List (PC P)) : Env P :=
  { E with
    frc := fr
    orc := fun _ f args h nx => orcOf l f args h nx
    horc := fun _ f args _ _ t r ho hr => orcOf_sound l f args t r ho hr }
end
noncomputable section
/-- From what must hold to a call: Q of its value. -/
theorem calls_holdsK {P : Program} [Inhabited Root] (E : Env P) (hcok : ∀ (f : Nat) fn c, P.funcs[f]? = some fn → fn.body = some c → cok c = true) (n : Nat) {f : FuncId} {args : Array Value} {Q : Value → Prop}
    (hr : ((ev E n).call [] f args [] B0).holds fun r => bel B0 r.v = true ∧ Q r.v) (ha : args.all (bel B0) = true) (w : World) (hw : Held w) : Calls P f args w fun e w' => ∃ v, e = .returned v ∧ Q v ∧ Below w.heap.size w w' := by
  obtain ⟨r, h1, h2, h3⟩ := Tree.holds_out hr
  refine (calls_readK E hcok n (v := r.v) (by rw [h1]; rfl) ha h2 w hw).mono ?_
  rintro e w' ⟨rfl, hb⟩
  exact ⟨_, rfl, h3, hb⟩
theorem calls_holds {P : Program} (E : Env P) (hcok : ∀ (f : Nat) fn c, P.funcs[f]? = some fn → fn.body = some c → cok c = true) (n : Nat) {f : FuncId} {args : Array Value} {Q : Value → Prop}
    (hr : ((ev E n).call [] f args [] B0).holds fun r => bel B0 r.v = true ∧ Q r.v) (ha : args.all (bel B0) = true) (w : World) : Calls P f args w fun e w' => ∃ v, e = .returned v ∧ Q v ∧ Below w.heap.size w w' :=
  @calls_holdsK P trivRoot E hcok n f args Q hr ha w (held_triv w)
/-- A contract out of a reading. -/
theorem calls_specK {P : Program} [Inhabited Root] (E : Env P) (hcok : ∀ (f : Nat) fn c, P.funcs[f]? = some fn → fn.body = some c → cok c = true) (n : Nat) {f : FuncId} {args : Array Value} {v : Value}
    (hr : ((ev E n).call [] f args [] B0).holds fun r => r.v = v) (ha : args.all (bel B0) = true) (hv : bel B0 v = true) (w : World) (hw : Held w) : Calls P f args w fun e w' => e = .returned v ∧ Below w.heap.size w w' := by
  obtain ⟨r, h1, h2⟩ := Tree.holds_out hr
  exact calls_readK E hcok n (v := v) (by rw [h1]; simp [h2]) ha hv w hw
theorem calls_spec {P : Program} (E : Env P) (hcok : ∀ (f : Nat) fn c, P.funcs[f]? = some fn → fn.body = some c → cok c = true) (n : Nat) {f : FuncId} {args : Array Value} {v : Value}
    (hr : ((ev E n).call [] f args [] B0).holds fun r => r.v = v) (ha : args.all (bel B0) = true) (hv : bel B0 v = true) (w : World) : Calls P f args w fun e w' => e = .returned v ∧ Below w.heap.size w w' :=
  @calls_specK P trivRoot E hcok n f args v hr ha hv w (held_triv w)
end
end Go.Den

/-
  Pieces of code, one behind another: what each comes to, put together.
-/
namespace Go.Den
open Go.RowKit
noncomputable section
set_option linter.unusedSectionVars false
theorem calls_satK {P : Program} [Inhabited Root] {f : FuncId} {args : Array Value} {r : VR} (h1 : SatCall P [] f args [] B0 r) (ha : args.all (bel B0) = true) (hv : bel B0 r.v = true) (w : World) (hw : Held w) : Calls P f args w fun e w' => e = .returned r.v ∧ Below w.heap.size w w' := by
  have R : Rel id [] [] B0 w := Rel.initK hw
  have hargs : ∀ v ∈ args, bel B0 v = true := Array.all_eq_true_iff_forall_mem.1 ha
  have h2 := h1 id w R hargs
  rw [map_low R hargs] at h2
  refine h2.mono ?_
  rintro e w' ⟨ρ', rfl, hb, R', S⟩
  exact ⟨by rw [ren_id R'.low r.v hv], ⟨S.os, S.tape, S.output, S.size, fun k hk => S.none_keep k hk⟩⟩
theorem calls_sat {P : Program} {f : FuncId} {args : Array Value} {r : VR} (h1 : @SatCall trivRoot trivNames P [] f args [] B0 r) (ha : args.all (bel B0) = true) (hv : bel B0 r.v = true) (w : World) : Calls P f args w fun e w' => e = .returned r.v ∧ Below w.heap.size w w' :=
  @calls_satK P trivRoot f args r h1 ha hv w (held_triv w)
variable [Inhabited Root] [Inhabited Names]

def cL : Code → Code
  | .seq a _ => a
  | .cond _ a _ => a
  | .block _ c => c
  | .loop c => c
  | .scope c => c
  | c => c
def cR : Code → Code
  | .seq _ b => b
  | .cond _ _ b => b
  | c => c
section
variable {P : Program} {g : AHeap} {c a b : Code} {st s1 s2 : St} {x : Exit} {id : Nat}
theorem cwp_mono {Q Q' : Exit → Act → World → Prop} {a : Act} {w : World} (h : cwp P c Q a w) (hQ : ∀ x a w, Q x a w → Q' x a w) : cwp P c Q' a w := by
  unfold cwp at *
  split at h
  · intro f k cs
    obtain ⟨e, a', w', hq, harr⟩ := h f k cs
    exact ⟨e, a', w', hQ _ _ _ hq, harr⟩
  · rename_i hne
    exact wp_mono h hQ
theorem sat_read (E : Env P) (hcok : ∀ (f : Nat) fn c, P.funcs[f]? = some fn → fn.body = some c → cok c = true) (n : Nat) {r : Exit × St} (hok : cok c = true) (h : ((ev E n).code g c st).run = some r) : SatCode P g c st r.1 r.2 :=
  (ev_sound E hcok n).code g c st r hok h
theorem sat_seq (hc : c = .seq a b) (h1 : SatCode P g a st .normal s1) (h2 : SatCode P g b s1 x s2) : SatCode P g c st x s2 := by
  subst hc
  intro ρ w R ht
  refine cwp_of (by intro b h; cases h) (wp_seq ?_)
  refine wp_mono (cwp_wp (h1 ρ w R ht)) ?_
  rintro x a' w' ⟨rfl, ρ', rfl, ht', R', S⟩
  exact wp_mono (cwp_wp (h2 ρ' w' R' ht')) fun x a u hp => hp.trans S
theorem sat_seq_exit (hc : c = .seq a b) (h1 : SatCode P g a st (.exit id) s1) : SatCode P g c st (.exit id) s1 := by
  subst hc
  intro ρ w R ht
  refine cwp_of (by intro b h; cases h) (wp_seq ?_)
  refine wp_mono (cwp_wp (h1 ρ w R ht)) ?_
  rintro x a' w' ⟨rfl, ρ', rfl, ht', R', S⟩
  exact ⟨rfl, ρ', rfl, ht', R', S⟩
theorem sat_block (hc : c = .block id b) (h : SatCode P g b st (.exit id) s1) : SatCode P g c st .normal s1 := by
  subst hc
  intro ρ w R ht
  refine cwp_of (by intro b h; cases h) (wp_block ?_)
  refine wp_mono (cwp_wp (h ρ w R ht)) ?_
  rintro x a' w' ⟨rfl, ρ', rfl, ht', R', S⟩
  simp only [Exit.inBlock, if_pos]
  exact ⟨rfl, ρ', rfl, ht', R', S⟩
theorem sat_block_normal (hc : c = .block id b) (h : SatCode P g b st .normal s1) : SatCode P g c st .normal s1 := by
  subst hc
  intro ρ w R ht
  refine cwp_of (by intro b h; cases h) (wp_block ?_)
  refine wp_mono (cwp_wp (h ρ w R ht)) ?_
  rintro x a' w' ⟨rfl, ρ', rfl, ht', R', S⟩
  exact ⟨rfl, ρ', rfl, ht', R', S⟩
theorem sat_loop (hc : c = .loop b) (h1 : SatCode P g b st .normal s1) (h2 : SatCode P g c s1 x s2) : SatCode P g c st x s2 := by
  subst hc
  intro ρ w R ht
  refine cwp_loop ?_
  refine wp_mono (cwp_wp (h1 ρ w R ht)) ?_
  rintro x a' w' ⟨rfl, ρ', rfl, ht', R', S⟩
  intro f k cs
  obtain ⟨e, a2, w2, hq, harr⟩ := h2 ρ' w' R' ht' f k cs
  exact ⟨e, a2, w2, hq.trans S, harr⟩
theorem sat_loop_exit (hc : c = .loop b) (h1 : SatCode P g b st (.exit id) s1) : SatCode P g c st (.exit id) s1 := by
  subst hc
  intro ρ w R ht
  refine cwp_loop ?_
  refine wp_mono (cwp_wp (h1 ρ w R ht)) ?_
  rintro x a' w' ⟨rfl, ρ', rfl, ht', R', S⟩
  exact ⟨rfl, ρ', rfl, ht', R', S⟩
/-- The same temporaries, told in another way. -/
theorem sat_arr (ht : s2.tmps.arr = st.tmps.arr) (hh : s2.h = st.h) (hn : s2.nx = st.nx) (h : SatCode P g c s2 x s1) : SatCode P g c st x s1 := by
  intro ρ w R hs
  have := h ρ w (by rw [hn, hh]; exact R) (by rw [ht, hn]; exact hs)
  rw [ht, hn, hh] at this
  exact this
/-- Blocks that are not wanted any more. -/
theorem sat_drop (ht : s2.tmps = st.tmps) (hn : s2.nx = st.nx) (hh : ∀ b B, s2.h.get b = some B → st.h.get b = some B) (h : SatCode P g c s2 x s1) : SatCode P g c st x s1 := by
  intro ρ w R hs
  have := h ρ w (by rw [hn]; exact R.sub hh fun _ _ h => h) (by rw [ht, hn]; exact hs)
  rw [ht, hn] at this
  refine cwp_mono this ?_
  rintro x a w' ⟨rfl, ρ', rfl, ht', R', S⟩
  refine ⟨rfl, ρ', rfl, ht', R', S.le, S.agree, fun b B hb hl => ?_, S.new, S.size, S.os, S.tape, S.output, fun k hk hno => S.keep k hk fun b B hb => hno b B (hh b B hb)⟩
  obtain ⟨C, hC⟩ := S.old b B hb hl
  exact ⟨C, hh b C hC⟩
theorem sat_call {f : FuncId} {fn : Func} {args : Array Value} {h : AHeap} {nx : Nat} {v : Value} (hf : P.funcs[f]? = some fn) (hb : fn.body = some c) (hle : Nat.ble (args.toList.length + (fn.ntmps - args.toList.length)) roof = true)
    (hs : SatCode P g c ⟨start args.toList fn.ntmps, h, nx⟩ x s1) (hx : x = .normal ∨ x = .ret) (hv : resultsA P g fn s1.tmps s1.h = some v) : SatCall P g f args h nx ⟨v, s1.h, s1.nx⟩ := by
  have e1 : (start args.toList fn.ntmps).arr = args ++ Array.replicate (fn.ntmps - args.size) undef := by
    rw [start_arr _ _ (by rwa [Nat.ble_eq] at hle)]
    apply Array.toList_inj.1; simp
  intro ρ w R ha
  have hst : SWf (start args.toList fn.ntmps).arr nx := by
    rw [e1]
    intro v hv
    rcases Array.mem_append.1 hv with hv | hv
    · exact ha v hv
    · rw [(Array.mem_replicate.1 hv).2]; exact bel_undef _
  have hact : (⟨args.map (ren ρ) ++ Array.replicate (fn.ntmps - (args.map (ren ρ)).size) undef, []⟩ : Act) = actOf ρ (start args.toList fn.ntmps).arr := by
    rw [e1]; unfold actOf; rw [Array.map_append, Array.map_replicate, ren_undef, Array.size_map]
  refine calls_of_wp hf hb ?_
  rw [hact]
  refine wp_mono (cwp_wp (hs ρ w R hst)) ?_
  rintro e a' w' ⟨rfl, ρ', rfl, ht', R', S⟩
  obtain ⟨a1, a2⟩ := run_resultsA R' ht' hv
  have key : (actOf ρ' s1.tmps.arr).defers = [] ∧ ∃ u, (results fn (actOf ρ' s1.tmps.arr).tmps).run P w' = .ok u w' ∧ (∃ ρ2, Ending.returned u = .returned (ren ρ2 v) ∧ bel s1.nx v = true ∧ Rel ρ2 g s1.h s1.nx w' ∧ Step ρ h nx w ρ2 s1.h s1.nx w') :=
    ⟨rfl, _, a1, ρ', rfl, a2, R', S⟩
  rcases hx with rfl | rfl
  · exact key
  · exact key
/-- What a tree without partings comes to. -/
def outOf (t : Tree (Exit × St)) : Exit × St := t.run.getD (.normal, ⟨⟨0, .nil⟩, [], 0⟩)
def tlOf (s : St) : List Value := (List.range s.tmps.size).map fun i => s.tmps.tr.get i
theorem run_outOf {t : Tree (Exit × St)} (h : t.run.isSome = true) : t.run = some (outOf t) := by
  unfold outOf
  cases ht : t.run with
  | none => rw [ht] at h; cases h
  | some r => rfl
end
end
end Go.Den

/-
  Pieces of code, one behind another: partings, and returns.
-/
namespace Go.Den
open Go.RowKit
noncomputable section
set_option linter.unusedSectionVars false
variable [Inhabited Root] [Inhabited Names]
section
variable {P : Program} {g : AHeap} {c a b : Code} {st s1 s2 : St} {x : Exit} {id : Nat}
theorem sat_seq_ret (hc : c = .seq a b) (h1 : SatCode P g a st .ret s1) : SatCode P g c st .ret s1 := by
  subst hc
  intro ρ w R ht
  refine cwp_of (by intro b h; cases h) (wp_seq ?_)
  refine wp_mono (cwp_wp (h1 ρ w R ht)) ?_
  rintro x a' w' ⟨rfl, ρ', rfl, ht', R', S⟩
  exact ⟨rfl, ρ', rfl, ht', R', S⟩
theorem sat_cond_t {o : Operand} (hc : c = .cond o a b) (ho : opndOk o = true) (hv : evF st.tmps o = .bool true) (h : SatCode P g a st x s1) : SatCode P g c st x s1 := by
  subst hc
  intro ρ w R ht
  have hev : (actOf ρ st.tmps.arr).eval o = .bool true := by rw [actOf_eval R ho, ← evF_eq, hv]; rfl
  exact cwp_of (by intro b h; cases h) (wp_cond hev (cwp_wp (h ρ w R ht)))
theorem sat_cond_f {o : Operand} (hc : c = .cond o a b) (ho : opndOk o = true) (hv : evF st.tmps o = .bool false) (h : SatCode P g b st x s1) : SatCode P g c st x s1 := by
  subst hc
  intro ρ w R ht
  have hev : (actOf ρ st.tmps.arr).eval o = .bool false := by rw [actOf_eval R ho, ← evF_eq, hv]; rfl
  exact cwp_of (by intro b h; cases h) (wp_cond hev (cwp_wp (h ρ w R ht)))
/-- More blocks are known than are wanted: those behind. -/
theorem sat_tail {h u : AHeap} {tm : FT} {nx : Nat} (hs : SatCode P g c ⟨tm, h, nx⟩ x s1) : SatCode P g c ⟨tm, h ++ u, nx⟩ x s1 :=
  sat_drop (s2 := ⟨tm, h, nx⟩) rfl rfl (fun b B hb => by
    show AHeap.get (h ++ u) b = some B
    rw [AHeap.get_append]
    have hb' : AHeap.get h b = some B := hb
    rw [hb']; rfl) hs
end
end
end Go.Den

/-
  Pieces of code, told up to the names of blocks: loops that make new blocks in each round.
-/
namespace Go.Den
open Go.RowKit
noncomputable section
set_option linter.unusedSectionVars false
variable [Inhabited Root] [Inhabited Names]

mutual
theorem ren_comp (ρ θ : Nat → Nat) : ∀ v, ren ρ (ren θ v) = ren (fun b => ρ (θ b)) v
  | .pointer (some a) => rfl
  | .slice (some a) l c => rfl
  | .slice none l c => rfl
  | .map (some r) => rfl
  | .chan (some r) => rfl
  | .func fn ⟨f⟩ ⟨c⟩ => by simp only [ren, renL_comp ρ θ f, renL_comp ρ θ c]
  | .iface t v => by simp only [ren, ren_comp ρ θ v]
  | .agg ⟨cs⟩ => by simp only [ren, renL_comp ρ θ cs]
  | .tuple ⟨cs⟩ => by simp only [ren, renL_comp ρ θ cs]
  | .bool b => rfl
  | .int k n => rfl
  | .float k b => rfl
  | .complex k a b => rfl
  | .string s => rfl
  | .pointer none => rfl
  | .map none => rfl
  | .chan none => rfl
  | .nilFunc => rfl
  | .nilIface => rfl
theorem renL_comp (ρ θ : Nat → Nat) : ∀ l, renL ρ (renL θ l) = renL (fun b => ρ (θ b)) l
  | [] => rfl
  | v :: r => by simp only [renL, ren_comp ρ θ v, renL_comp ρ θ r]
end
theorem map_comp (ρ θ : Nat → Nat) (a : Array Value) : (a.map (ren θ)).map (ren ρ) = a.map (ren fun b => ρ (θ b)) := by
  rw [Array.map_map]
  exact congrArg (fun f => Array.map f a) (funext fun v => ren_comp ρ θ v)
/-- From w to w': what is none of h's stands as it was; what is known behind is h's own, or new. -/
structure Far (ρ : Nat → Nat) (h : AHeap) (w : World) (ρ' : Nat → Nat) (h' : AHeap) (w' : World) : Prop where
  size : w.heap.size ≤ w'.heap.size
  os : w'.os = w.os
  tape : w'.tape = w.tape
  output : w'.output = w.output
  own : ∀ b B, h'.get b = some B → (∃ c C, h.get c = some C ∧ ρ c = ρ' b) ∨ w.heap.size ≤ ρ' b
  keep : ∀ c, c < w.heap.size → (∀ b B, h.get b = some B → ρ b ≠ c) → w'.heap[c]? = w.heap[c]?
theorem Far.trans {ρ1 ρ2 ρ3 : Nat → Nat} {h1 h2 h3 : AHeap} {w1 w2 w3 : World} (a : Far ρ1 h1 w1 ρ2 h2 w2) (b : Far ρ2 h2 w2 ρ3 h3 w3) : Far ρ1 h1 w1 ρ3 h3 w3 where
  size := Nat.le_trans a.size b.size
  os := b.os.trans a.os
  tape := b.tape.trans a.tape
  output := b.output.trans a.output
  own := fun n N hn => by
    rcases b.own n N hn with ⟨c, C, hc, e⟩ | hs
    · rcases a.own c C hc with ⟨d, D, hd, e2⟩ | hs2
      · exact .inl ⟨d, D, hd, e2.trans e⟩
      · exact .inr (by rw [← e]; exact hs2)
    · exact .inr (Nat.le_trans a.size hs)
  keep := fun c hc hno => by
    refine (b.keep c (Nat.lt_of_lt_of_le hc a.size) fun d D hd he => ?_).trans (a.keep c hc hno)
    rcases a.own d D hd with ⟨n, N, hn, e⟩ | hs
    · exact hno n N hn (e.trans he)
    · omega
theorem Step.far {ρ ρ' : Nat → Nat} {h h' : AHeap} {nx nx' : Nat} {w w' : World} (s : Step ρ h nx w ρ' h' nx' w') : Far ρ h w ρ' h' w' where
  size := s.size
  os := s.os
  tape := s.tape
  output := s.output
  own := fun b B hb => by
    by_cases hl : b < nx
    · obtain ⟨C, hC⟩ := s.old b B hb hl
      exact .inl ⟨b, C, hC, (s.agree b hl).symm⟩
    · exact .inr (s.new b B hb (by omega))
  keep := s.keep
section
variable {P : Program} {c a b : Code} {s s1 s2 : St} {x : Exit} {id : Nat} {Q Q1 Q2 : St → Prop}
def QPost (x : Exit) (Q : St → Prop) (ρ : Nat → Nat) (h : AHeap) (w : World) : Exit → Act → World → Prop := fun e a w' =>
  e = x ∧ ∃ s' ρ', Q s' ∧ a = actOf ρ' s'.tmps.arr ∧ SWf s'.tmps.arr s'.nx ∧ Rel ρ' [] s'.h s'.nx w' ∧ Far ρ h w ρ' s'.h w'
/-- Code c leads from s, by the exit x, to a state that Q holds of, whatever its blocks are. -/
def SatQ (P : Program) (c : Code) (s : St) (x : Exit) (Q : St → Prop) : Prop :=
  ∀ ρ w, Rel ρ [] s.h s.nx w → SWf s.tmps.arr s.nx → cwp P c (QPost x Q ρ s.h w) (actOf ρ s.tmps.arr) w
theorem satQ_of (h : SatCode P [] c s x s1) (hq : Q s1) : SatQ P c s x Q := by
  intro ρ w R ht
  refine cwp_mono (h ρ w R ht) ?_
  rintro e a w' ⟨rfl, ρ', rfl, ht', R', S⟩
  exact ⟨rfl, s1, ρ', hq, rfl, ht', R', S.far⟩
theorem satQ_mono (h : SatQ P c s x Q1) (hq : ∀ s', Q1 s' → Q2 s') : SatQ P c s x Q2 := by
  intro ρ w R ht
  refine cwp_mono (h ρ w R ht) ?_
  rintro e a w' ⟨rfl, s', ρ', h1, h2⟩
  exact ⟨rfl, s', ρ', hq s' h1, h2⟩
theorem QPost.trans {s' : St} {ρ ρ' : Nat → Nat} {h : AHeap} {w w' : World} (F : Far ρ h w ρ' s'.h w') {e : Exit} {a : Act} {u : World} (hp : QPost x Q ρ' s'.h w' e a u) : QPost x Q ρ h w e a u := by
  obtain ⟨h1, s3, ρ3, hq, h2, h3, h4, h5⟩ := hp
  exact ⟨h1, s3, ρ3, hq, h2, h3, h4, F.trans h5⟩
theorem satQ_seq (hc : c = .seq a b) (h1 : SatQ P a s .normal Q1) (h2 : ∀ s', Q1 s' → SatQ P b s' x Q2) : SatQ P c s x Q2 := by
  subst hc
  intro ρ w R ht
  refine cwp_of (by intro b h; cases h) (wp_seq ?_)
  refine wp_mono (cwp_wp (h1 ρ w R ht)) ?_
  rintro e a' w' ⟨rfl, s', ρ', hq, rfl, ht', R', F⟩
  exact wp_mono (cwp_wp (h2 s' hq ρ' w' R' ht')) fun x a u hp => hp.trans F
theorem satQ_seq_ret (hc : c = .seq a b) (h1 : SatQ P a s .ret Q) : SatQ P c s .ret Q := by
  subst hc
  intro ρ w R ht
  refine cwp_of (by intro b h; cases h) (wp_seq ?_)
  refine wp_mono (cwp_wp (h1 ρ w R ht)) ?_
  rintro e a' w' ⟨rfl, hp⟩
  exact ⟨rfl, hp⟩
theorem satQ_block (hc : c = .block id b) (h : SatQ P b s (.exit id) Q) : SatQ P c s .normal Q := by
  subst hc
  intro ρ w R ht
  refine cwp_of (by intro b h; cases h) (wp_block ?_)
  refine wp_mono (cwp_wp (h ρ w R ht)) ?_
  rintro e a' w' ⟨rfl, hp⟩
  simp only [Exit.inBlock, if_pos]
  exact ⟨rfl, hp⟩
theorem satQ_block_normal (hc : c = .block id b) (h : SatQ P b s .normal Q) : SatQ P c s .normal Q := by
  subst hc
  intro ρ w R ht
  refine cwp_of (by intro b h; cases h) (wp_block ?_)
  refine wp_mono (cwp_wp (h ρ w R ht)) ?_
  rintro e a' w' ⟨rfl, hp⟩
  exact ⟨rfl, hp⟩
theorem satQ_block_ret (hc : c = .block id b) (h : SatQ P b s .ret Q) : SatQ P c s .ret Q := by
  subst hc
  intro ρ w R ht
  refine cwp_of (by intro b h; cases h) (wp_block ?_)
  refine wp_mono (cwp_wp (h ρ w R ht)) ?_
  rintro e a' w' ⟨rfl, hp⟩
  exact ⟨rfl, hp⟩
theorem satQ_loop (hc : c = .loop b) (h1 : SatQ P b s .normal Q1) (h2 : ∀ s', Q1 s' → SatQ P c s' x Q2) : SatQ P c s x Q2 := by
  subst hc
  intro ρ w R ht
  refine cwp_loop ?_
  refine wp_mono (cwp_wp (h1 ρ w R ht)) ?_
  rintro e a' w' ⟨rfl, s', ρ', hq, rfl, ht', R', F⟩
  intro f k cs
  obtain ⟨e, a2, w2, hq2, harr⟩ := h2 s' hq ρ' w' R' ht' f k cs
  exact ⟨e, a2, w2, hq2.trans F, harr⟩
theorem satQ_loop_exit (hc : c = .loop b) (h1 : SatQ P b s (.exit id) Q) : SatQ P c s (.exit id) Q := by
  subst hc
  intro ρ w R ht
  refine cwp_loop ?_
  refine wp_mono (cwp_wp (h1 ρ w R ht)) ?_
  rintro e a' w' ⟨rfl, hp⟩
  exact ⟨rfl, hp⟩
theorem satQ_loop_ret (hc : c = .loop b) (h1 : SatQ P b s .ret Q) : SatQ P c s .ret Q := by
  subst hc
  intro ρ w R ht
  refine cwp_loop ?_
  refine wp_mono (cwp_wp (h1 ρ w R ht)) ?_
  rintro e a' w' ⟨rfl, hp⟩
  exact ⟨rfl, hp⟩
/-- The state s, seen as s2 with other names. -/
structure View (s s2 : St) (θ : Nat → Nat) : Prop where
  low : ∀ b, b < B0 → θ b = b
  base : B0 ≤ s2.nx
  tm : s.tmps.arr = s2.tmps.arr.map (ren θ)
  wf : SWf s2.tmps.arr s2.nx
  hp : ∀ b B, s2.h.get b = some B → s.h.get (θ b) = some ⟨B.cells.map (ren θ), B.T, B.op.map θ⟩
  inj : ∀ b b' B B', s2.h.get b = some B → s2.h.get b' = some B' → θ b = θ b' → b = b'
  lt : ∀ b B, s2.h.get b = some B → B0 ≤ b ∧ b < s2.nx
  hb : ∀ b B, s2.h.get b = some B → BBel s2.nx B
  fix : ∀ b, b < (default : Names).n → θ b = b
  nroot : (default : Names).n ≤ s2.nx
theorem satQ_view {θ : Nat → Nat} (v : View s s2 θ) (h : SatQ P c s2 x Q) : SatQ P c s x Q := by
  intro ρ w R ht
  have R2 : Rel (fun b => ρ (θ b)) [] s2.h s2.nx w := by
    refine ⟨fun b hb => ?_, v.base, fun b B h => (by cases h), fun b B hb => ?_, fun b b' B B' h1 h2 he => ?_, fun b b' B B' _ h2 => (by cases h2), v.lt, fun b B h => (by cases h), v.hb, fun b B h => (by cases h), R.held, fun b hb => ?_, v.nroot, fun b B hb => R.far _ _ (v.hp b B hb)⟩
    · show ρ (θ b) = b
      rw [v.low b hb]; exact R.low b hb
    · obtain ⟨junk, e1, e2⟩ := R.hat _ _ (v.hp b B hb)
      refine ⟨junk, ?_, ?_⟩
      · rw [← map_comp]; exact e1
      · cases ho : B.op with
        | none => rw [ho] at e2; exact e2
        | some k =>
          rw [ho] at e2
          simp only [Option.map_some, Array.size_map] at e2 ⊢
          exact e2
    · exact v.inj b b' B B' h1 h2 (R.inj _ _ _ _ (v.hp b B h1) (v.hp b' B' h2) he)
    · show ρ (θ b) = _
      rw [v.fix b hb]; exact R.fix b hb
  have hact : actOf ρ s.tmps.arr = actOf (fun b => ρ (θ b)) s2.tmps.arr := by
    unfold actOf; rw [v.tm, map_comp]
  rw [hact]
  refine cwp_mono (h _ w R2 v.wf) ?_
  rintro e a w' ⟨rfl, s', ρ', hq, rfl, ht', R', F⟩
  refine ⟨rfl, s', ρ', hq, rfl, ht', R', F.size, F.os, F.tape, F.output, fun b B hb => ?_, fun k hk hno => F.keep k hk fun b B hb => ?_⟩
  · rcases F.own b B hb with ⟨n, N, hn, e⟩ | hs
    · exact .inl ⟨θ n, _, v.hp n N hn, e⟩
    · exact .inr hs
  · exact hno (θ b) _ (v.hp b B hb)
end
end
noncomputable section
/-- From a function's body to its calls; its value bears no addresses. -/
theorem calls_satQK {P : Program} {c : Code} {x : Exit} {Q : St → Prop} [Inhabited Root] {f : FuncId} {fn : Func} {args : Array Value} {v : Value} (hf : P.funcs[f]? = some fn) (hb : fn.body = some c) (hle : Nat.ble (args.toList.length + (fn.ntmps - args.toList.length)) roof = true)
    (hs : SatQ P c ⟨start args.toList fn.ntmps, [], B0⟩ x Q) (hx : x = .normal ∨ x = .ret) (hv : ∀ s', Q s' → resultsA P [] fn s'.tmps s'.h = some v) (ha : args.all (bel B0) = true) (hbv : bel B0 v = true) (w : World) (hw : Held w) :
    Calls P f args w fun e w' => e = .returned v ∧ Below w.heap.size w w' := by
  have e1 : (start args.toList fn.ntmps).arr = args ++ Array.replicate (fn.ntmps - args.size) undef := by
    rw [start_arr _ _ (by rwa [Nat.ble_eq] at hle)]
    apply Array.toList_inj.1; simp
  have hargs : ∀ v ∈ args, bel B0 v = true := Array.all_eq_true_iff_forall_mem.1 ha
  have R : Rel id [] [] B0 w := Rel.initK hw
  have hst : SWf (start args.toList fn.ntmps).arr B0 := by
    rw [e1]
    intro v hv
    rcases Array.mem_append.1 hv with hv | hv
    · exact hargs v hv
    · rw [(Array.mem_replicate.1 hv).2]; exact bel_undef _
  have hact : (⟨args ++ Array.replicate (fn.ntmps - args.size) undef, []⟩ : Act) = actOf id (start args.toList fn.ntmps).arr := by
    have e2 := map_low R hargs
    rw [e1]; unfold actOf; rw [Array.map_append, Array.map_replicate, ren_undef, e2]
  refine calls_of_wp hf hb ?_
  rw [hact]
  refine wp_mono (cwp_wp (hs id w R hst)) ?_
  rintro e a' w' ⟨rfl, s', ρ', hq, rfl, ht', R', F⟩
  obtain ⟨a1, a2⟩ := run_resultsA R' ht' (hv s' hq)
  have hr : ren ρ' v = v := ren_id R'.low v hbv
  rw [hr] at a1
  have key : (actOf ρ' s'.tmps.arr).defers = [] ∧ ∃ u, (results fn (actOf ρ' s'.tmps.arr).tmps).run P w' = .ok u w' ∧ (Ending.returned u = .returned v ∧ Below w.heap.size w w') :=
    ⟨rfl, _, a1, rfl, ⟨F.os, F.tape, F.output, F.size, fun k hk => F.keep k hk fun b B h => by cases h⟩⟩
  rcases hx with rfl | rfl
  · exact key
  · exact key
end
end Go.Den

/-
  Contracts as oracles of a reading: under the root, over memory; from a reading to a call with arguments in memory.
-/
namespace Go.Den
open Go.RowKit
noncomputable section
set_option linter.unusedSectionVars false

/-- The same contract for every call of a function whose arguments are as told, wherever the root's blocks stand. -/
structure PK (P : Program) [Inhabited Root] where
  f : FuncId
  spec : Array Value → Option (Bool × Value)
  body : (P.funcs[f]?.bind (·.body)).isSome = true
  ok : ∀ args r, spec args = some r → r.1 = true → args.all (bel B0) = true ∧ bel B0 r.2 = true ∧ ∀ w, Held w → Calls P f args w fun e w' => e = .returned r.2 ∧ Below w.heap.size w w'
def PC.up {P : Program} [Inhabited Root] (c : PC P) : PK P where
  f := c.f
  spec := c.spec
  body := c.body
  ok := fun args r h k => ⟨(c.ok args r h k).1, (c.ok args r h k).2.1, fun w _ => (c.ok args r h k).2.2 w⟩
variable [Inhabited Root] [Inhabited Names]
/-- A contract over memory. -/
structure PM (P : Program) where
  f : FuncId
  orc : AHeap → Array Value → AHeap → Nat → Option (Tree VR)
  body : (P.funcs[f]?.bind (·.body)).isSome = true
  ok : ∀ g args h nx t r, orc g args h nx = some t → t.run = some r → SatCall P g f args h nx r
section
variable {P : Program} {g h : AHeap} {nx nx' : Nat} {f : FuncId} {args : Array Value}
/-- A value comes back, and nothing old turns. -/
theorem satCall_val {v : Value} (hv : bel B0 v = true) (hc : ∀ ρ w, Rel ρ g h nx w → SWf args nx → Calls P f (args.map (ren ρ)) w fun e w' => e = .returned v ∧ Below w.heap.size w w') :
    SatCall P g f args h nx ⟨v, h, nx⟩ := by
  intro ρ w R ha
  refine (hc ρ w R ha).mono ?_
  rintro e w' ⟨rfl, hb⟩
  refine ⟨ρ, by rw [ren_low R hv], bel_low R hv, R.later (fun _ _ => rfl) fun k hk => hb.block k hk,
    ⟨Nat.le_refl _, fun _ _ => rfl, fun b B hb' _ => ⟨B, hb'⟩, fun b B hb' hn => absurd (R.lt b B hb').2 (by omega), hb.size, hb.os, hb.tape, hb.output, fun k hk _ => hb.block k hk⟩⟩
/-- One new block, and nothing old turns. -/
theorem Rel.fresh {ρ ρ' : Nat → Nat} {w w' : World} {B : ABlk} (R : Rel ρ g h nx w) (hag : ∀ b, b < nx → ρ' b = ρ b) (hb : Below w.heap.size w w') (hn : nx < nx') (hB : BBel nx' B)
    (hnew : w.heap.size ≤ ρ' nx) (hat : BlkAt ρ' w' (ρ' nx) B) : Rel ρ' g (h.set nx B) nx' w' ∧ Step ρ h nx w ρ' (h.set nx B) nx' w' := by
  have hk : ∀ c, c < w.heap.size → w'.heap[c]? = w.heap[c]? := fun c hc => hb.block c hc
  have L := R.later hag hk
  have key : ∀ b C, (h.set nx B).get b = some C → (b = nx ∧ C = B) ∨ (b < nx ∧ h.get b = some C) := by
    intro b C hC
    rw [AHeap.get_set] at hC
    by_cases hx : nx = b
    · rw [if_pos hx] at hC; exact .inl ⟨hx.symm, (Option.some.inj hC).symm⟩
    · rw [if_neg hx] at hC; exact .inr ⟨(R.lt b C hC).2, hC⟩
  have hold : ∀ b C, h.get b = some C → ρ' b < w.heap.size := fun b C hC => by
    rw [hag b (R.lt b C hC).2]; exact (R.hat b C hC).lt
  have hbase := R.base
  refine ⟨⟨L.low, by omega, L.gat, fun b C hC => ?_, fun b b' C C' h1 h2 he => ?_, fun b b' C C' h1 h2 => ?_, fun b C hC => ?_, fun b C hC => by have := R.glt b C hC; omega, fun b C hC => ?_, fun b C hC => (R.gbel b C hC).mono (by omega), L.held, L.fix, by have := R.nroot; omega, fun b C hC => ?_⟩,
    ⟨by omega, hag, fun b C hC hl => ?_, fun b C hC hl => ?_, hb.size, hb.os, hb.tape, hb.output, fun c hc _ => hk c hc⟩⟩
  · rcases key b C hC with ⟨rfl, rfl⟩ | ⟨_, h1⟩
    · exact hat
    · exact L.hat b C h1
  · rcases key b C h1 with ⟨rfl, rfl⟩ | ⟨_, k1⟩ <;> rcases key b' C' h2 with ⟨rfl, rfl⟩ | ⟨_, k2⟩
    · rfl
    · have := hold b' C' k2; omega
    · have := hold b C k1; omega
    · exact L.inj b b' C C' k1 k2 he
  · rcases key b C h1 with ⟨rfl, rfl⟩ | ⟨_, k1⟩
    · have := (R.gat b' C' h2).lt
      rw [hag b' (R.glt b' C' h2)]; omega
    · exact L.dis b b' C C' k1 h2
  · rcases key b C hC with ⟨rfl, rfl⟩ | ⟨h1, k1⟩
    · omega
    · have := R.lt b C k1; omega
  · rcases key b C hC with ⟨rfl, rfl⟩ | ⟨_, k1⟩
    · exact hB
    · exact (R.hbel b C k1).mono (by omega)
  · rcases key b C hC with ⟨rfl, rfl⟩ | ⟨_, k1⟩
    · exact Nat.le_trans R.held.size hnew
    · exact L.far b C k1
  · rcases key b C hC with ⟨rfl, rfl⟩ | ⟨_, k1⟩
    · omega
    · exact ⟨C, k1⟩
  · rcases key b C hC with ⟨rfl, rfl⟩ | ⟨h1, k1⟩
    · exact hnew
    · omega
theorem satCall_fresh {v : Value} {B : ABlk} (hn : nx < nx') (hv : B0 ≤ nx → bel nx' v = true) (hB : B0 ≤ nx → BBel nx' B)
    (hc : ∀ ρ w, Rel ρ g h nx w → SWf args nx → Calls P f (args.map (ren ρ)) w fun e w' => ∃ ρ', (∀ b, b < nx → ρ' b = ρ b) ∧ e = .returned (ren ρ' v) ∧ Below w.heap.size w w' ∧ w.heap.size ≤ ρ' nx ∧ BlkAt ρ' w' (ρ' nx) B) :
    SatCall P g f args h nx ⟨v, h.set nx B, nx'⟩ := by
  intro ρ w R ha
  refine (hc ρ w R ha).mono ?_
  rintro e w' ⟨ρ', hag, rfl, hb, hnew, hat⟩
  obtain ⟨R', S⟩ := R.fresh hag hb hn (hB R.base) hnew hat
  exact ⟨ρ', rfl, hv R.base, R', S⟩
end
def PK.mem {P : Program} (c : PK P) : PM P where
  f := c.f
  orc := fun _ args h nx => match c.spec args with
    | some q => some (.br q.1 (.leaf ⟨q.2, h, nx⟩) .fail)
    | none => none
  body := c.body
  ok := fun g args h nx t r ho hr => by
    split at ho
    · rename_i q hq
      cases ho
      obtain ⟨hok, hr⟩ := Tree.run_guard hr
      cases hr
      obtain ⟨h1, h2, h3⟩ := c.ok args q hq hok
      refine satCall_val h2 fun ρ w R ha => ?_
      rw [map_low R (Array.all_eq_true_iff_forall_mem.1 h1)]
      exact h3 w R.held
    · cases ho
def orcM {P : Program} : List (PM P) → AHeap → FuncId → Array Value → AHeap → Nat → Option (Tree VR)
  | [], _, _, _, _, _ => none
  | c :: r, g, f, args, h, nx => bif Nat.beq c.f f then
      match c.orc g args h nx with
      | some q => some q
      | none => orcM r g f args h nx
    else orcM r g f args h nx
theorem orcM_sound {P : Program} {g h : AHeap} {nx : Nat} : ∀ (l : List (PM P)) (f : FuncId) (args : Array Value) (t : Tree VR) (r : VR), orcM l g f args h nx = some t → t.run = some r →
    SatCall P g f args h nx r ∧ (P.funcs[f]?.bind (·.body)).isSome = true
  | [], _, _, _, _, ho, _ => by cases ho
  | c :: l, f, args, t, r, ho, hr => by
    unfold orcM at ho
    simp only [cond_eq_ite, Nat.beq_eq] at ho
    split at ho
    · rename_i hf
      subst hf
      split at ho
      · rename_i q hq
        cases ho
        exact ⟨c.ok g args h nx _ r hq hr, c.body⟩
      · exact orcM_sound l _ args t r ho hr
    · exact orcM_sound l f args t r ho hr
/-- The same reading with contracts over memory as its oracles. -/
def Env.mem {P : Program} (E : Env P) (fr : Bool) (l : List (PM P)) : Env P :=
  { E with
    frc := fr
    orc := fun g f args h nx => orcM l g f args h nx
    horc := fun _ f args _ _ t r ho hr => orcM_sound l f args t r ho hr }
/-- One way through a reading: which side is taken at each parting; what was asked there, and what it comes to. -/
def Tree.path (t : Tree VR) : List Bool → Option (List Bool × Value) :=
  Tree.rec (motive := fun _ => List Bool → Option (List Bool × Value)) (fun a _ => some ([], a.v))
    (fun b _ _ iht ihf l => List.rec (motive := fun _ => Option (List Bool × Value)) none (fun c r _ => Option.rec (motive := fun _ => Option (List Bool × Value)) none (fun p => some (b :: p.1, p.2)) (Bool.casesOn (motive := fun _ => Option (List Bool × Value)) c (ihf r) (iht r))) l)
    (fun _ => none) t
theorem Tree.path_run {v : Value} : ∀ {t : Tree VR} {l cs : List Bool}, t.path l = some (cs, v) → cs = l → ∃ r, t.run = some r ∧ r.v = v := by
  intro t
  induction t with
  | leaf a => intro l cs h _; cases h; exact ⟨a, rfl, rfl⟩
  | br b x y ihx ihy =>
    intro l cs h he
    cases l with
    | nil => cases h
    | cons c r =>
      change Option.rec (motive := fun _ => Option (List Bool × Value)) none (fun p => some (b :: p.1, p.2)) (Bool.casesOn (motive := fun _ => Option (List Bool × Value)) c (y.path r) (x.path r)) = some (cs, v) at h
      cases c
      · cases hp : y.path r with
        | none => simp only [hp] at h; cases h
        | some p =>
          simp only [hp] at h
          cases h
          obtain ⟨h1, h2⟩ := List.cons.inj he
          subst h1
          exact ihy (by rw [hp]) h2
      · cases hp : x.path r with
        | none => simp only [hp] at h; cases h
        | some p =>
          simp only [hp] at h
          cases h
          obtain ⟨h1, h2⟩ := List.cons.inj he
          subst h1
          exact ihx (by rw [hp]) h2
  | fail => intro l cs h _; cases h
theorem Tree.path_holds {v : Value} {t : Tree VR} {l cs : List Bool} (h : t.path l = some (cs, v)) (he : cs = l) : t.holds fun r => r.v = v := by
  obtain ⟨r, h1, h2⟩ := Tree.path_run h he
  exact Tree.holds_in h1 h2
/-- From a reading to a call with arguments in memory. -/
theorem calls_law {P : Program} (E : Env P) (hcok : ∀ (f : Nat) fn c, P.funcs[f]? = some fn → fn.body = some c → cok c = true) (n : Nat) {f : FuncId} {args : Array Value} {v : Value} {nx : Nat}
    (hr : ((ev E n).call [] f args [] nx).holds fun r => r.v = v) (hv : bel B0 v = true) (hb : B0 ≤ nx) (hl : ∀ b, b < B0 → (default : Names).ρ b = b) (hn : (default : Names).n ≤ nx) (ha : SWf args nx) (w : World) (hw : Held w) :
    Calls P f (args.map (ren (default : Names).ρ)) w fun e w' => e = .returned v ∧ Below w.heap.size w w' := by
  obtain ⟨r, h1, h2⟩ := Tree.holds_out hr
  obtain ⟨h3, _⟩ := (ev_sound E hcok n).call _ _ _ _ _ _ h1
  have R : Rel (default : Names).ρ [] [] nx w := Rel.start hl hb hw (fun _ _ => rfl) hn
  refine (h3 _ w R ha).mono ?_
  rintro e w' ⟨ρ', rfl, hb', R', S⟩
  rw [h2, ren_id R'.low v hv]
  exact ⟨rfl, ⟨S.os, S.tape, S.output, S.size, fun k hk => S.none_keep k hk⟩⟩
end
end Go.Den




namespace Go.Den

open Go.Proofs

set_option maxRecDepth 100000

set_option linter.unusedSectionVars false

variable [Inhabited Root] [Inhabited Names]

theorem hmixT : Tryz.prog.follows .mixedOrders = true := by kernel_rfl
theorem hngT : (Tryz.prog.funcs.all fun fn => !(fn.name == "runtime.NumGoroutine")) = true := by kernel_rfl
theorem hcokT : (Tryz.prog.funcs.all fun fn => match fn.body with | some c => cok c | none => true) = true := by kernel_rfl
/-- The types whose values may be compared. -/
def soL : List Nat := [94, 22, 24, 32]
theorem soAll : (soL.all fun t => !Tryz.prog.stoodInHeld t && !Tryz.prog.eqGuardType Tryz.prog.depth t) = true := by kernel_rfl
noncomputable def envF (fr : Bool) : Env Tryz.prog where
  frc := fr
  so := fun t => soL.any (Nat.beq t)
  hso := fun t h => by
    obtain ⟨u, hu, hb⟩ := List.any_eq_true.1 h
    rw [Nat.beq_eq] at hb
    subst hb
    have := List.all_eq_true.1 soAll _ hu
    rw [Bool.and_eq_true, Bool.not_eq_true', Bool.not_eq_true'] at this
    exact this
  hmix := hmixT
  hng := fun f fn hf => by have := eq_of_all hngT hf; simpa using this
  ext := fun f args => bif Nat.beq f 110 then add64A args else bif Nat.beq f 134 then sub64A args else none
  hext := fun f args r hr hok => by
    simp only [cond_eq_ite, Nat.beq_eq] at hr
    split at hr
    · rename_i h; subst h
      exact add64_ext Tryz.func110 (by kernel_rfl) (by kernel_rfl) (by kernel_rfl) (by kernel_rfl) hr hok
    · split at hr
      · rename_i h; subst h
        exact sub64_ext Tryz.func134 (by kernel_rfl) (by kernel_rfl) (by kernel_rfl) (by kernel_rfl) hr hok
      · cases hr
  orc := fun _ _ _ _ _ => none
  horc := fun _ _ _ _ _ _ _ h => by cases h
noncomputable abbrev envT : Env Tryz.prog := envF true
noncomputable abbrev envS : Env Tryz.prog := envF false
theorem hcokP (f : Nat) (fn : Func) (c : Code) (hf : Tryz.prog.funcs[f]? = some fn) (hb : fn.body = some c) : cok c = true := by
  have := eq_of_all hcokT hf
  rw [hb] at this; exact this
end Go.Den


/-
  Plain arithmetic of numbers of 128 bits: a number of the range and its two halves. No program is named here.
-/
namespace Go.Proofs.YtmfdnbjmfgljlaaGreatDoor

/-- 2^64 and 2^127, the numbers of the range. -/
def hi (n : Int) : Int := n / 18446744073709551616
def lo (n : Int) : Int := n % 18446744073709551616
def InR (n : Int) : Prop := -170141183460469231731687303715884105728 ≤ n ∧ n ≤ 170141183460469231731687303715884105727
/-- What saturates. -/
def clamp (n : Int) : Int := if n < -170141183460469231731687303715884105728 then -170141183460469231731687303715884105728 else if 170141183460469231731687303715884105727 < n then 170141183460469231731687303715884105727 else n

theorem hilo (n : Int) : hi n * 18446744073709551616 + lo n = n := by unfold hi lo; omega
theorem lo_bd (n : Int) : 0 ≤ lo n ∧ lo n ≤ 18446744073709551615 := by unfold lo; omega
theorem hi_bd {n : Int} (h : InR n) : -9223372036854775808 ≤ hi n ∧ hi n ≤ 9223372036854775807 := by
  unfold InR at h; unfold hi; omega
theorem hi_of {h l n : Int} (h0 : 0 ≤ l) (h1 : l ≤ 18446744073709551615) (e : h * 18446744073709551616 + l = n) : hi n = h := by
  unfold hi; omega
theorem lo_of {h l n : Int} (h0 : 0 ≤ l) (h1 : l ≤ 18446744073709551615) (e : h * 18446744073709551616 + l = n) : lo n = l := by
  unfold lo; omega
theorem inR_of {h l : Int} (h0 : 0 ≤ l) (h1 : l ≤ 18446744073709551615) (g0 : -9223372036854775808 ≤ h) (g1 : h ≤ 9223372036854775807) : InR (h * 18446744073709551616 + l) := by
  unfold InR; omega
theorem hilo_inj {a b : Int} (h : hi a = hi b) (l : lo a = lo b) : a = b := by
  have := hilo a; have := hilo b; rw [h, l] at *; omega
theorem clamp_in (n : Int) : InR (clamp n) := by unfold InR clamp; split <;> (try split) <;> omega
theorem clamp_of {n : Int} (h : InR n) : clamp n = n := by unfold InR at h; unfold clamp; rw [if_neg (by omega), if_neg (by omega)]
theorem hi_neg (n : Int) : hi n < 0 ↔ n < 0 := by unfold hi; omega
end Go.Proofs.YtmfdnbjmfgljlaaGreatDoor


/-
  Plain facts of decimal numerals: what is told of a number, and what is read of a text. No program is named here.
-/




namespace Go.Proofs.YtmfdnbjmfgljlaaGreatDoor

open Go.Lib

def isDig (c : UInt8) : Bool := decide (48 ≤ c.toNat) && decide (c.toNat ≤ 57)
/-- A digit more, of a number's sign; what saturates. -/
def uwNext (neg : Bool) (w : Int) (d : Int) : Int := clamp (clamp (w * 10) + (if neg then -d else d))
def uwGo (neg : Bool) : List UInt8 → Int → Option Int
  | [], w => some w
  | c :: r, w => if isDig c then uwGo neg r (uwNext neg w ((c.toNat : Int) - 48)) else none
/-- The wide number of a text. -/
def uwS (l : List UInt8) : Option Int := if 40 < l.length then none else (uwGo (hasPrefix l [45]) (trimPrefix l [45]) 0).bind fun w => if itoa w = l then some w else none
def udS (l : List UInt8) : Option Int := (uwS l).bind fun w => if -9223372036854775808 ≤ w ∧ w ≤ 9223372036854775807 then some w else none
def uuS (l : List UInt8) : Option Int := (uwS l).bind fun w => if 0 ≤ w ∧ w ≤ 18446744073709551615 then some w else none

theorem uwGo_app (neg : Bool) : ∀ (a b : List UInt8) (w : Int), uwGo neg (a ++ b) w = (uwGo neg a w).bind (uwGo neg b)
  | [], b, w => rfl
  | c :: r, b, w => by
    simp only [List.cons_append, uwGo]
    split
    · exact uwGo_app neg r b _
    · rfl
theorem uwGo_in (neg : Bool) : ∀ (a : List UInt8) (w v : Int), InR w → uwGo neg a w = some v → InR v
  | [], w, v, h, e => by simp only [uwGo, Option.some.injEq] at e; subst e; exact h
  | c :: r, w, v, h, e => by
    simp only [uwGo] at e
    split at e
    · exact uwGo_in neg r _ v (clamp_in _) e
    · cases e
theorem uwGo_bad (neg : Bool) : ∀ (a b : List UInt8) (c : UInt8) (w : Int), isDig c = false → uwGo neg (a ++ c :: b) w = none
  | [], b, c, w, h => by simp [uwGo, h]
  | x :: r, b, c, w, h => by
    simp only [List.cons_append, uwGo]
    split
    · exact uwGo_bad neg r b c _ h
    · rfl
def svN (neg : Bool) (u : Nat) : Int := if neg then -(u : Int) else u
theorem dig_nat {d : Nat} (h : d < 10) : (UInt8.ofNat (48 + d)).toNat = 48 + d := by simp; omega
theorem isDig_of {d : Nat} (h : d < 10) : isDig (UInt8.ofNat (48 + d)) = true := by
  unfold isDig; rw [dig_nat h]; simp; omega
theorem decDigits_dig : ∀ (u : Nat), ∀ c ∈ decDigits u, isDig c = true := by
  intro u
  induction u using Nat.strongRecOn with
  | _ u ih =>
    intro c hc
    rw [decDigits] at hc
    split at hc
    · rw [List.mem_singleton] at hc; subst hc; exact isDig_of (by omega)
    · rcases List.mem_append.1 hc with h | h
      · exact ih (u / 10) (by omega) c h
      · rw [List.mem_singleton] at h; subst h; exact isDig_of (by omega)
theorem svN_in {neg : Bool} {u v : Nat} (h : InR (svN neg u)) (hv : v ≤ u) : InR (svN neg v) := by
  unfold InR svN at *; cases neg <;> simp at h ⊢ <;> omega
theorem uwNext_svN {neg : Bool} {u : Nat} (h : InR (svN neg u)) : uwNext neg (svN neg (u / 10)) ((u % 10 : Nat) : Int) = svN neg u := by
  have h1 : InR (svN neg (u / 10) * 10) := by unfold InR svN at *; cases neg <;> simp at h ⊢ <;> omega
  unfold uwNext
  rw [clamp_of h1]
  have e : svN neg (u / 10) * 10 + (if neg then -((u % 10 : Nat) : Int) else ((u % 10 : Nat) : Int)) = svN neg u := by unfold svN; cases neg <;> simp <;> omega
  rw [e, clamp_of h]
theorem svN_zero (neg : Bool) : svN neg 0 = 0 := by unfold svN; split <;> rfl
theorem uwGo_dec (neg : Bool) : ∀ (u : Nat), InR (svN neg u) → uwGo neg (decDigits u) 0 = some (svN neg u) := by
  intro u
  induction u using Nat.strongRecOn with
  | _ u ih =>
    intro h
    rw [decDigits]
    split
    · rename_i hu
      have := uwNext_svN h
      rw [show u / 10 = 0 by omega, svN_zero, show u % 10 = u by omega] at this
      simp only [uwGo, isDig_of hu, if_true, dig_nat hu]
      rw [show (((48 + u : Nat) : Int) - 48) = (u : Int) by omega, this]
    · rename_i hu
      rw [uwGo_app, ih (u / 10) (by omega) (svN_in h (by omega))]
      have h2 : u % 10 < 10 := Nat.mod_lt _ (by decide)
      simp only [Option.bind_some, uwGo, isDig_of h2, if_true, dig_nat h2]
      rw [show (((48 + u % 10 : Nat) : Int) - 48) = ((u % 10 : Nat) : Int) by omega, uwNext_svN h]
theorem nDigits_le : ∀ (k u : Nat), u < 10 ^ (k + 1) → nDigits u ≤ k + 1
  | 0, u, h => by rw [nDigits_small (by simpa using h)]; exact Nat.le_refl _
  | k + 1, u, h => by
    by_cases hu : u < 10
    · rw [nDigits_small hu]; omega
    · rw [nDigits_big hu]
      have := nDigits_le k (u / 10) (by rw [Nat.pow_succ] at h; omega)
      omega
theorem nDigits_mono : ∀ (b a : Nat), a ≤ b → nDigits a ≤ nDigits b := by
  intro b
  induction b using Nat.strongRecOn with
  | _ b ih =>
    intro a h
    by_cases ha : a < 10
    · rw [nDigits_small ha]; exact nDigits_pos b
    · rw [nDigits_big ha, nDigits_big (show ¬ b < 10 by omega)]
      have := ih (b / 10) (by omega) (a / 10) (by omega)
      omega
theorem itoa_len {n : Int} (h : InR n) : (itoa n).length ≤ 40 := by
  unfold InR at h
  unfold itoa
  split
  · rw [List.length_cons, decDigits_length]
    have := nDigits_le 38 n.natAbs (by omega)
    omega
  · rw [decDigits_length]
    have := nDigits_le 38 n.toNat (by omega)
    omega
theorem decDigits_ne (u : Nat) : decDigits u ≠ [] := by
  intro h
  have h1 := decDigits_length u
  rw [h] at h1
  have := nDigits_pos u
  simp at h1; omega
theorem dec_noMinus (u : Nat) : hasPrefix (decDigits u) [45] = false := by
  cases h : decDigits u with
  | nil => rfl
  | cons c r =>
    have hc := decDigits_dig u c (by rw [h]; exact List.mem_cons_self)
    unfold hasPrefix
    simp only [List.isPrefixOf, Bool.and_true]
    rw [beq_eq_false_iff_ne]
    rintro rfl
    simp [isDig] at hc
theorem uw_itoa {n : Int} (h : InR n) : uwS (itoa n) = some n := by
  have hl := itoa_len h
  unfold uwS
  rw [if_neg (by omega)]
  have key : uwGo (hasPrefix (itoa n) [45]) (trimPrefix (itoa n) [45]) 0 = some n := by
    rcases (by omega : n < 0 ∨ 0 ≤ n) with hn | hn
    · have e : itoa n = 45 :: decDigits n.natAbs := by unfold itoa; rw [if_pos hn]
      have e2 : hasPrefix (itoa n) [45] = true := by rw [e]; simp [hasPrefix, List.isPrefixOf]
      have e3 : svN true n.natAbs = n := by unfold svN; simp; omega
      unfold trimPrefix
      rw [e2, if_pos rfl, e]
      have := uwGo_dec true n.natAbs (by rw [e3]; exact h)
      rw [e3] at this
      exact this
    · have e : itoa n = decDigits n.toNat := by unfold itoa; rw [if_neg (by omega)]
      have e2 : hasPrefix (itoa n) [45] = false := by rw [e]; exact dec_noMinus _
      have e3 : svN false n.toNat = n := by unfold svN; simp; omega
      unfold trimPrefix
      rw [e2, if_neg (by simp), e]
      have := uwGo_dec false n.toNat (by rw [e3]; exact h)
      rw [e3] at this
      exact this
  rw [key]
  simp
theorem zero_in : InR 0 := by unfold InR; omega
theorem uw_some {l : List UInt8} {w : Int} (h : uwS l = some w) : itoa w = l ∧ InR w := by
  unfold uwS at h
  split at h
  · cases h
  · rw [Option.bind_eq_some_iff] at h
    obtain ⟨v, h1, h2⟩ := h
    split at h2
    · rename_i e
      cases h2
      exact ⟨e, uwGo_in _ _ _ _ zero_in h1⟩
    · cases h2
theorem ud_some {l : List UInt8} {w : Int} (h : udS l = some w) : itoa w = l ∧ -9223372036854775808 ≤ w ∧ w ≤ 9223372036854775807 := by
  unfold udS at h
  rw [Option.bind_eq_some_iff] at h
  obtain ⟨v, h1, h2⟩ := h
  split at h2
  · rename_i e
    cases h2
    exact ⟨(uw_some h1).1, e⟩
  · cases h2
theorem uu_some {l : List UInt8} {w : Int} (h : uuS l = some w) : itoa w = l ∧ 0 ≤ w ∧ w ≤ 18446744073709551615 := by
  unfold uuS at h
  rw [Option.bind_eq_some_iff] at h
  obtain ⟨v, h1, h2⟩ := h
  split at h2
  · rename_i e
    cases h2
    exact ⟨(uw_some h1).1, e⟩
  · cases h2
theorem ud_itoa {n : Int} (h0 : -9223372036854775808 ≤ n) (h1 : n ≤ 9223372036854775807) : udS (itoa n) = some n := by
  unfold udS
  rw [uw_itoa (by unfold InR; omega), Option.bind_some, if_pos ⟨h0, h1⟩]
theorem uu_itoa {n : Int} (h0 : 0 ≤ n) (h1 : n ≤ 18446744073709551615) : uuS (itoa n) = some n := by
  unfold uuS
  rw [uw_itoa (by unfold InR; omega), Option.bind_some, if_pos ⟨h0, h1⟩]
theorem itoa_shorter {a b : Int} (ha : 0 ≤ a) (hb : 0 ≤ b) (h : (itoa a).length < (itoa b).length) : a < b := by
  rcases Int.lt_or_le a b with h1 | h1
  · exact h1
  · unfold itoa at h
    rw [if_neg (by omega), if_neg (by omega), decDigits_length, decDigits_length] at h
    have := nDigits_mono a.toNat b.toNat (by omega)
    omega
/-- A great number's numeral: that of its upper part, and its last digits. -/
theorem dec_pad : ∀ (k a b : Nat), b < 10 ^ (k + 1) → 0 < a → decDigits (a * 10 ^ (k + 1) + b) = decDigits a ++ (List.replicate (k + 1 - nDigits b) 48 ++ decDigits b) := by
  intro k
  induction k with
  | zero =>
    intro a b h ha
    have hb : b < 10 := by simpa using h
    rw [decDigits, dif_neg (by omega), nDigits_small hb, decDigits_one hb]
    rw [show (a * 10 ^ (0 + 1) + b) / 10 = a by omega, show (a * 10 ^ (0 + 1) + b) % 10 = b by omega]
    rfl
  | succ k ih =>
    intro a b h ha
    have hp : a * 10 ^ (k + 1 + 1) = a * 10 ^ (k + 1) * 10 := by rw [Nat.pow_succ (n := 10) (m := k + 1), ← Nat.mul_assoc]
    have hq : 1 ≤ a * 10 ^ (k + 1) := Nat.mul_pos ha (Nat.one_le_pow _ _ (by decide))
    have h' : b / 10 < 10 ^ (k + 1) := by rw [Nat.pow_succ] at h; omega
    have ih' := ih a (b / 10) h' ha
    rw [hp]
    generalize a * 10 ^ (k + 1) = q at *
    rw [decDigits, dif_neg (by omega), show (q * 10 + b) / 10 = q + b / 10 by omega, show (q * 10 + b) % 10 = b % 10 by omega, ih', List.append_assoc, List.append_assoc]
    congr 1
    by_cases hb : b < 10
    · rw [show b / 10 = 0 by omega, nDigits_small (show 0 < 10 by omega), nDigits_small hb, decDigits_one hb, show b % 10 = b by omega, decDigits_one (show 0 < 10 by omega)]
      simp only [Nat.add_sub_cancel]
      rw [show (UInt8.ofNat (48 + 0)) = (48 : UInt8) from rfl, ← List.append_assoc, ← List.replicate_succ' (n := k)]
    · rw [nDigits_big hb, show k + 1 + 1 - (nDigits (b / 10) + 1) = k + 1 - nDigits (b / 10) by omega]
      congr 1
      conv => rhs; rw [decDigits, dif_neg hb]
end Go.Proofs.YtmfdnbjmfgljlaaGreatDoor


/-
  Plain facts of hexadecimal texts. No program is named here.
-/

namespace Go.Proofs.YtmfdnbjmfgljlaaGreatDoor

/-- A hexadecimal digit. -/
def hexd (n : Nat) : UInt8 := UInt8.ofNat (if n < 10 then 48 + n else 87 + n)
def hexP (c : UInt8) : List UInt8 := [hexd (c.toNat / 16), hexd (c.toNat % 16)]
/-- The text of bytes. -/
def hexL : List UInt8 → List UInt8
  | [] => []
  | c :: r => hexP c ++ hexL r
theorem hexL_app : ∀ a b, hexL (a ++ b) = hexL a ++ hexL b
  | [], _ => rfl
  | c :: r, b => by simp [hexL, hexL_app r b]
theorem hexL_len : ∀ l, (hexL l).length = 2 * l.length
  | [] => rfl
  | c :: r => by simp [hexL, hexP, hexL_len r]; omega
def isHex (c : UInt8) : Bool := (decide (48 ≤ c.toNat) && decide (c.toNat ≤ 57)) || (decide (97 ≤ c.toNat) && decide (c.toNat ≤ 102))
/-- A digit's value. -/
def hexv (c : UInt8) : Nat := if 97 ≤ c.toNat then c.toNat - 87 else c.toNat - 48
def pairs : List UInt8 → List UInt8
  | x :: y :: r => UInt8.ofNat (16 * hexv x + hexv y) :: pairs r
  | _ => []
/-- The bytes of a text. -/
def unhexL (l : List UInt8) : Option (List UInt8) := if l.length % 2 = 0 ∧ l.all isHex = true then some (pairs l) else none
theorem hexv_lt {c : UInt8} (h : isHex c = true) : hexv c < 16 := by
  unfold isHex at h; unfold hexv; simp at h; split <;> omega
theorem hexd_nat {n : Nat} (h : n < 16) : (hexd n).toNat = if n < 10 then 48 + n else 87 + n := by
  unfold hexd; simp; split <;> omega
theorem hexd_isHex {n : Nat} (h : n < 16) : isHex (hexd n) = true := by
  unfold isHex; rw [hexd_nat h]; simp; split <;> omega
theorem hexv_hexd {n : Nat} (h : n < 16) : hexv (hexd n) = n := by
  unfold hexv; rw [hexd_nat h]; split <;> split <;> omega
theorem hexd_hexv {c : UInt8} (h : isHex c = true) : hexd (hexv c) = c := by
  have h1 := hexv_lt h
  apply UInt8.toNat_inj.1
  rw [hexd_nat h1]
  unfold isHex at h; simp at h
  by_cases hc : 97 ≤ c.toNat
  · have e : hexv c = c.toNat - 87 := by unfold hexv; rw [if_pos hc]
    rw [e, if_neg (by omega)]; omega
  · have e : hexv c = c.toNat - 48 := by unfold hexv; rw [if_neg hc]
    rw [e, if_pos (by omega)]; omega
theorem hexL_isHex : ∀ l, (hexL l).all isHex = true
  | [] => rfl
  | c :: r => by
    have h1 : c.toNat < 256 := c.toNat_lt
    simp only [hexL, hexP, List.cons_append, List.nil_append, List.all_cons, hexL_isHex r, hexd_isHex (show c.toNat / 16 < 16 by omega), hexd_isHex (show c.toNat % 16 < 16 by omega)]; rfl
theorem pairs_hexL : ∀ l, pairs (hexL l) = l
  | [] => rfl
  | c :: r => by
    have h1 : c.toNat < 256 := c.toNat_lt
    simp only [hexL, hexP, List.cons_append, List.nil_append, pairs, pairs_hexL r, hexv_hexd (show c.toNat / 16 < 16 by omega), hexv_hexd (show c.toNat % 16 < 16 by omega)]
    rw [show 16 * (c.toNat / 16) + c.toNat % 16 = c.toNat by omega]
    simp
theorem unhex_hex (l : List UInt8) : unhexL (hexL l) = some l := by
  unfold unhexL
  rw [if_pos ⟨by rw [hexL_len]; omega, hexL_isHex l⟩, pairs_hexL]
theorem hexL_pairs : ∀ (n : Nat) (l : List UInt8), l.length = 2 * n → l.all isHex = true → hexL (pairs l) = l
  | 0, l, h, _ => by rw [List.length_eq_zero_iff.1 (by omega : l.length = 0)]; rfl
  | n + 1, [], h, _ => by simp at h
  | n + 1, [x], h, _ => by simp at h; omega
  | n + 1, x :: y :: r, h, ha => by
    simp only [List.all_cons, Bool.and_eq_true] at ha
    have hx := hexv_lt ha.1; have hy := hexv_lt ha.2.1
    have e : (UInt8.ofNat (16 * hexv x + hexv y)).toNat = 16 * hexv x + hexv y := by simp; omega
    simp only [pairs, hexL, hexP, e, hexL_pairs n r (by simp at h; omega) ha.2.2]
    rw [show (16 * hexv x + hexv y) / 16 = hexv x by omega, show (16 * hexv x + hexv y) % 16 = hexv y by omega, hexd_hexv ha.1, hexd_hexv ha.2.1]
    rfl
theorem hex_unhex {l b : List UInt8} (h : unhexL l = some b) : hexL b = l := by
  unfold unhexL at h
  split at h
  · rename_i hc
    cases h
    exact hexL_pairs (l.length / 2) l (by omega) hc.2
  · cases h
theorem pairs_len : ∀ (l : List UInt8), (pairs l).length = l.length / 2
  | [] => rfl
  | [x] => by simp [pairs]
  | x :: y :: r => by simp only [pairs, List.length_cons, pairs_len r]; omega
end Go.Proofs.YtmfdnbjmfgljlaaGreatDoor


/-
  Small lemmas of my own on blocks of memory: what a block of cells holds, and that calls which only make memory leave it.
-/
namespace Go.Proofs.YtmfdnbjmfgljlaaGreatDoor
open Go.RowKit

/-- Block b of w is the cells cs, of type T, none of them frozen. -/
def Blk (w : World) (b : Nat) (cs : Array Value) (T : TypeId) : Prop := w.heap[b]? = some (.cells cs T (0, 0))
theorem Blk.cell {w : World} {b : Nat} {cs : Array Value} {T : TypeId} (h : Blk w b cs T) (i : Nat) : w.cell? ⟨b, i, none⟩ = cs[i]? := by
  unfold Blk at h; simp [World.cell?, h]
theorem Blk.free {w : World} {b : Nat} {cs : Array Value} {T : TypeId} (h : Blk w b cs T) (i : Nat) : w.frozen? ⟨b, i, none⟩ = false := by
  unfold Blk at h; simp [World.frozen?, h]
theorem Blk.lt {w : World} {b : Nat} {cs : Array Value} {T : TypeId} (h : Blk w b cs T) : b < w.heap.size := lt_of_block h
theorem Blk.one {w : World} {b : Nat} {x : Value} {T : TypeId} (h : Blk w b #[x] T) : w.cell? ⟨b, 0, none⟩ = some x := h.cell 0
theorem Blk.two {w : World} {b : Nat} {x y : Value} {T : TypeId} (h : Blk w b #[x, y] T) : w.cell? ⟨b, 0, none⟩ = some x ∧ w.cell? ⟨b, 1, none⟩ = some y := ⟨h.cell 0, h.cell 1⟩
theorem Blk.free0 {w : World} {b : Nat} {cs : Array Value} {T : TypeId} (h : Blk w b cs T) : w.frozen? ⟨b, 0, none⟩ = false ∧ w.frozen? ⟨b, 1, none⟩ = false := ⟨h.free 0, h.free 1⟩
theorem Blk.drew {w : World} {b : Nat} {cs : Array Value} {T : TypeId} (h : Blk w b cs T) : Blk w.drew b cs T := h
theorem Blk.new {w : World} {b : Nat} {cs : Array Value} {T : TypeId} (hb : b = w.heap.size) : Blk (w.alloc (.cells cs T)) b cs T := by
  subst hb; show (w.heap.push _)[w.heap.size]? = _; simp
theorem Blk.old {w : World} {b : Nat} {cs : Array Value} {T : TypeId} (h : Blk w b cs T) (o : Obj) : Blk (w.alloc o) b cs T := by
  have := h.lt; unfold Blk at *; rw [Below.heap_alloc _ _ _ this]; exact h
theorem Blk.keep {w w' : World} {b : Nat} {cs : Array Value} {T : TypeId} (hb : Below w.heap.size w w') (h : Blk w b cs T) : Blk w' b cs T := by
  have := h.lt; unfold Blk at *; rw [hb.block _ this]; exact h
theorem Blk.put {w : World} {b i : Nat} {cs : Array Value} {T : TypeId} (h : Blk w b cs T) (v : Value) : Blk (w.setCell ⟨b, i, none⟩ v) b (cs.setIfInBounds i v) T := by
  have hlt := h.lt
  unfold Blk at *
  have h' : w.heap[b] = .cells cs T (0, 0) := by simpa [Array.getElem?_eq_getElem hlt] using h
  show (w.heap.modify b _)[b]? = _
  rw [Array.getElem?_eq_getElem (by simpa using hlt), Array.getElem_modify_self, h']
  rfl
theorem Blk.else {w : World} {b : Nat} {a : Addr} {cs : Array Value} {T : TypeId} (h : Blk w b cs T) (v : Value) (hb : b ≠ a.block) : Blk (w.setCell a v) b cs T := by
  unfold Blk at *; rw [Below.heap_setCell _ _ _ _ hb]; exact h
theorem Blk.else2 {w : World} {b b' : Nat} {cs : Array Value} {x y : Value} {T : TypeId} (n : Blk w b' cs T) (hne : b' ≠ b) : Blk ((w.setCell ⟨b, 0, none⟩ x).setCell ⟨b, 1, none⟩ y) b' cs T := (n.else (a := ⟨b, 0, none⟩) x hne).else (a := ⟨b, 1, none⟩) y hne
theorem Below.put2 {w0 w : World} {b B : Nat} {x y : Value} (h : Below B w0 w) (hb : B ≤ b) : Below B w0 ((w.setCell ⟨b, 0, none⟩ x).setCell ⟨b, 1, none⟩ y) := (h.setCell (p := ⟨b, 0, none⟩) hb x).setCell (p := ⟨b, 1, none⟩) hb y
/-- Below the size that it had a world is as it was, over one more call. -/
theorem keepW {W w w' : World} (h : Below W.heap.size W w) (hb : Below w.heap.size w w') : Below W.heap.size W w' := h.trans (hb.mono h.size)

section
variable {P : Program} {l : List Oper} {Q : Exit → Act → World → Prop} {md : Region.Mode} {S : World → Prop}
/-- An operation that is wanted, and yields its value in every world that meets S, is taken first. -/
theorem H.take (i : Nat) {o : Oper} {v : Value} {fuel : Nat} {listed : Array Bool} {a : Act} {w : World} (ho : l[i]? = some o)
    (hc : (Region.noSelect l.toArray && Region.free md l.toArray listed i && (Region.ready md l.toArray listed).contains i) = true)
    (hQ : ∀ c a w, Q (.panic c) (a.put o.dst v) w → Q (.panic c) a w)
    (hw : Region.wanted o (yielded l.toArray a.tmps) = true) (hv : ∀ w, S w → (execOp a.eval o).run P w = .ok (.value v) w) (hS : S w)
    (h : wpAnyH P md l.toArray Q S fuel (listed.setIfInBounds i true) (a.put o.dst v) w) : wpAnyH P md l.toArray Q S (fuel + 1) listed a w := by
  simp only [Bool.and_eq_true] at hc
  exact wpAnyH_take (by simpa using ho) hc.1.1 hc.1.2 hc.2 hQ (Or.inl ⟨hw, hv⟩) hS h
/-- An operation that is not wanted (its guard said otherwise) is passed by. -/
theorem H.skip (i : Nat) {o : Oper} {fuel : Nat} {listed : Array Bool} {a : Act} {w : World} (ho : l[i]? = some o)
    (hc : (Region.noSelect l.toArray && Region.free md l.toArray listed i && (Region.ready md l.toArray listed).contains i) = true)
    (hQ : ∀ c a w, Q (.panic c) (a.put o.dst undef) w → Q (.panic c) a w)
    (hw : Region.wanted o (yielded l.toArray a.tmps) = false) (hS : S w)
    (h : wpAnyH P md l.toArray Q S fuel (listed.setIfInBounds i true) (a.put o.dst undef) w) : wpAnyH P md l.toArray Q S (fuel + 1) listed a w := by
  simp only [Bool.and_eq_true] at hc
  exact wpAnyH_take (by simpa using ho) hc.1.1 hc.1.2 hc.2 hQ (Or.inr ⟨hw, rfl⟩) hS h
/-- What may come up is known: one goal for each. -/
theorem H.ready (rs : List Nat) {fuel : Nat} {listed : Array Bool} {a : Act} {w : World} (hr : Region.ready md l.toArray listed = rs) (hne : rs ≠ [])
    (h : AllReadyH P md l.toArray Q S fuel listed a w rs) : wpAnyH P md l.toArray Q S (fuel + 1) listed a w := wpAnyH_ready hr hne h
theorem H.one {fuel : Nat} {listed : Array Bool} {a : Act} {w : World} {i : Nat} {o : Oper} {rs : List Nat} (ho : l[i]? = some o)
    (hw : Region.wanted o (yielded l.toArray a.tmps) = true)
    (h : ∀ K' : Act → World → Prop, Shut (∀ a w, S w → (S w → wpAnyH P md l.toArray Q S fuel (listed.setIfInBounds i true) a w) → K' a w) → Oper.wp P o a w K' Q)
    (hs : AllReadyH P md l.toArray Q S fuel listed a w rs) : AllReadyH P md l.toArray Q S fuel listed a w (i :: rs) :=
  AllReadyH.cons (by simpa using ho) (fun K hK => by rw [if_pos hw]; exact h K hK) hs
/-- Behind an alloc: the new block. -/
theorem H.fresh {fuel : Nat} {ops : Array Oper} {listed : Array Bool} {a : Act} {w : World} {cs : Array Value} {T : TypeId}
    (h : Blk (w.alloc (.cells cs T)) w.heap.size cs T → wpAnyH P md ops Q S fuel listed a (w.alloc (.cells cs T))) : wpAnyH P md ops Q S fuel listed a (w.alloc (.cells cs T)) := h (Blk.new rfl)
/-- Behind a store of two cells: the block that was written, and another one. -/
theorem H.stored2 {fuel : Nat} {ops : Array Oper} {listed : Array Bool} {a : Act} {w : World} {b : Nat} {p q x y : Value} {T : TypeId} (n : Blk w b #[p, q] T)
    (h : Blk ((w.setCell ⟨b, 0, none⟩ x).setCell ⟨b, 1, none⟩ y) b #[x, y] T → wpAnyH P md ops Q S fuel listed a ((w.setCell ⟨b, 0, none⟩ x).setCell ⟨b, 1, none⟩ y)) :
    wpAnyH P md ops Q S fuel listed a ((w.setCell ⟨b, 0, none⟩ x).setCell ⟨b, 1, none⟩ y) := h ((n.put (i := 0) x).put (i := 1) y)
theorem H.other2 {fuel : Nat} {ops : Array Oper} {listed : Array Bool} {a : Act} {w : World} {b b' : Nat} {cs : Array Value} {x y : Value} {T : TypeId} (n : Blk w b' cs T) (hne : b' ≠ b)
    (h : Blk ((w.setCell ⟨b, 0, none⟩ x).setCell ⟨b, 1, none⟩ y) b' cs T → wpAnyH P md ops Q S fuel listed a ((w.setCell ⟨b, 0, none⟩ x).setCell ⟨b, 1, none⟩ y)) :
    wpAnyH P md ops Q S fuel listed a ((w.setCell ⟨b, 0, none⟩ x).setCell ⟨b, 1, none⟩ y) := h ((n.else (a := ⟨b, 0, none⟩) x hne).else (a := ⟨b, 1, none⟩) y hne)
theorem H.done {listed : Array Bool} {a : Act} {w : World} (hr : Region.ready md l.toArray listed = []) (h : Q .normal a w) (fuel : Nat) : wpAnyH P md l.toArray Q S fuel listed a w := wpAnyH_done hr h fuel
end
end Go.Proofs.YtmfdnbjmfgljlaaGreatDoor


/-
  The document's text of bytes: the walk.
-/




namespace Go.Proofs.YtmfdnbjmfgljlaaGreatDoor

open Go.RowKit

set_option maxRecDepth 100000

/-- A byte, and bytes, as values. -/
abbrev u8 (c : UInt8) : Value := .int .u8 (c.toNat : Int)
theorem info_u8 : (Tryz.prog.info? 5).map (fun i => (i.zero, i.size, i.bytes)) = some (some (.int .u8 0), 1, 1) := by kernel_rfl
/-- Bytes that the call owns, told as a string. -/
theorem conv_own {w : World} {base n : Nat} {v : Value} {l : List UInt8} (h : w.ownsRow base 5 1 v n (l.map u8)) :
    (convert 33 9 v).run Tryz.prog w = .ok (.string ⟨l.toArray⟩) w := by
  have hl : l.length = n := by have := h.1; simpa using this
  rcases Nat.eq_zero_or_pos n with h0 | h0
  · have he : l = [] := List.length_eq_zero_iff.1 (by omega)
    subst he
    subst h0
    rcases h.2 with ⟨rfl, _⟩ | ⟨g, cap, cur, rfl, _⟩
    · rw [run_convert_bytes_string w 33 9 5 none 0 0 Tryz.underlying33 Tryz.underlying5 Tryz.underlying9]
      simp [Conv.bytesToString]; rfl
    · exact run_convert_bytes_back (P := Tryz.prog) w 33 9 5 ⟨g, 0, none⟩ cap [] Tryz.underlying33 Tryz.underlying5 Tryz.underlying9 (fun j hj => by simp at hj)
  · obtain ⟨g, cap, rfl, _, _⟩ := h.form h0
    have hc := h.cells (g := g) rfl
    subst hl
    exact run_convert_bytes_back (P := Tryz.prog) w 33 9 5 ⟨g, 0, none⟩ cap l Tryz.underlying33 Tryz.underlying5 Tryz.underlying9 (fun j hj => hc j _ (by simp [hj]))
/-- Behind an append to a row of the call's own. -/
theorem own_next {W wr w' : World} {v v' : Value} {n : Nat} {l : List UInt8} {x : Int} {c : UInt8} (hx : x = (c.toNat : Int)) (hb : Below W.heap.size W wr) (h0 : (wr.alloc (.cells #[.int .u8 x] 5)).ownsRow W.heap.size 5 1 v n (l.map u8))
    (h1 : w'.ownsRow W.heap.size 5 1 v' (n + 1) (l.map u8 ++ [.int .u8 x])) (hg : (wr.alloc (.cells #[.int .u8 x] 5)).grownBy w' v.ownBlock) :
    w'.ownsRow W.heap.size 5 1 v' (n + 1) ((l ++ [c]).map u8) ∧ Below W.heap.size W w' := by
  subst hx
  refine ⟨by rw [List.map_append]; exact h1, ?_⟩
  have hb2 := hb.alloc hb.size (.cells #[.int .u8 (c.toNat : Int)] 5)
  exact hb2.grown hg hb2.size fun k hk => (h0.lt k hk).1
/-- What the loops keep: i bytes are told, and k digits of the next one. -/
def HxL (bs : List UInt8) (i k : Nat) : List UInt8 := hexL (bs.take i) ++ (hexP (bs.getD i 0)).take k
def HxR (bs : List UInt8) (w : World) (i k : Nat) (v : Value) (wr : World) : Prop :=
  wr.ownsRow w.heap.size 5 1 v (2 * i + k) ((HxL bs i k).map u8) ∧ Below w.heap.size w wr
theorem HxL_0 (bs : List UInt8) (i : Nat) (h : i < bs.length) : HxL bs i 1 = HxL bs i 0 ++ [hexd (bs[i].toNat / 16)] := by
  unfold HxL; simp [hexP, List.getD, h]
theorem HxL_1 (bs : List UInt8) (i : Nat) (h : i < bs.length) : HxL bs i 2 = HxL bs i 1 ++ [hexd (bs[i].toNat % 16)] := by
  unfold HxL; simp [hexP, List.getD, h]
theorem HxL_2 (bs : List UInt8) (i : Nat) (h : i < bs.length) : HxL bs i 2 = HxL bs (i + 1) 0 := by
  unfold HxL
  rw [List.take_succ_eq_append_getElem h, hexL_app]; simp [hexP, hexL, List.getD, h]

end Go.Proofs.YtmfdnbjmfgljlaaGreatDoor


/-
  The text of bytes: the walk.
-/


namespace Go.Proofs.YtmfdnbjmfgljlaaGreatDoor

open Go.RowKit

set_option maxRecDepth 100000

theorem one2 (a b : Int) : ∀ u ∈ (#[Value.int .u8 a, .int .u8 b] : Array Value).toList, u.oneCell' = true := by
  intro u hu
  simp at hu
  rcases hu with rfl | rfl <;> rfl
theorem bits15_fin : ∀ x : Fin 256, bits BinOp.and IntKind.u8 (x.val : Int) 15 = ((x.val % 16 : Nat) : Int) := by decide +kernel
theorem bits15 (x : Nat) (h : x < 256) : bits BinOp.and IntKind.u8 (x : Int) 15 = ((x % 16 : Nat) : Int) := bits15_fin ⟨x, h⟩
def digs : ByteArray := { data := #[48, 49, 50, 51, 52, 53, 54, 55, 56, 57, 97, 98, 99, 100, 101, 102] }
theorem digs_fin : ∀ p : Fin 16, digs.data.toList.getD p.val 0 = hexd p.val := by decide +kernel
theorem digs_at (p : Nat) (h : p < 16) (h' : p < digs.size) : digs[p]'h' = hexd p := by
  have e : digs[p]'h' = digs.data.toList.getD p 0 := by
    show digs.data[p] = _
    rw [List.getD_eq_getElem?_getD, Array.getElem?_toList, Array.getElem?_eq_getElem (by exact h')]; rfl
  rw [e]; exact digs_fin ⟨p, h⟩
/-- Behind an append of two bytes to a row of the call's own. -/
theorem own_next2 {W wr w' : World} {v v' : Value} {n : Nat} {l : List UInt8} {c d : UInt8} (hb : Below W.heap.size W wr) (h0 : (wr.drew.alloc (.cells #[.int .u8 (c.toNat : Int), .int .u8 (d.toNat : Int)] 5)).ownsRow W.heap.size 5 1 v n (l.map u8))
    (h1 : w'.ownsRow W.heap.size 5 1 v' (n + 2) (l.map u8 ++ [.int .u8 (c.toNat : Int), .int .u8 (d.toNat : Int)])) (hg : (wr.drew.alloc (.cells #[.int .u8 (c.toNat : Int), .int .u8 (d.toNat : Int)] 5)).grownBy w' v.ownBlock) :
    w'.ownsRow W.heap.size 5 1 v' (n + 2) ((l ++ [c, d]).map u8) ∧ Below W.heap.size W w' := by
  refine ⟨by rw [List.map_append]; exact h1, ?_⟩
  have hb2 := hb.drew.alloc hb.drew.size (.cells #[.int .u8 (c.toNat : Int), .int .u8 (d.toNat : Int)] 5)
  exact hb2.grown hg hb2.size fun k hk => (h0.lt k hk).1
set_option maxHeartbeats 4000000 in
theorem hex_walk (blk off n c : Nat) (bs : List UInt8) (hn : bs.length = n) (hsm : n ≤ 1048576) (w : World) (hb : blk < w.heap.size)
    (hc : ∀ (j : Nat) x, bs[j]? = some x → w.cell? ⟨blk, off + j, none⟩ = some (u8 x)) :
    Calls Tryz.prog 70 #[.slice (some ⟨blk, off, none⟩) n c] w fun e w' => e = .returned (.string ⟨(hexL bs).toArray⟩) ∧ Below w.heap.size w w' := by
  have HC := Lib.hid hc; clear hc
  obtain ⟨i0, hi, hz0, hz1, hz2⟩ := info_parts info_u8
  have HI := Lib.hid hi
  clear hi
  go_enter Tryz.func70, Tryz.ntmps70
  go_wp2_with (at_make; refine wpList_make_own _ rfl _ _ 33 rfl w.heap.size 5 i0 (.int .u8 0) 1 Tryz.underlying33 HI.out hz0 hz1 .i64 .i64 (2 * (n : Int)) (2 * n) rfl rfl (by omega) ?m1 ?m2 ?m3 ?_)
  case m1 => rw [hz2]; omega
  case m2 => unfold maxLen; omega
  case m3 => exact Nat.le_refl _
  intro w1 hown0 hg0
  have hb0 : Below w.heap.size w w1 := (Below.refl _ w).grown hg0 (Nat.le_refl _) (fun k hk => by cases hk)
  clear hg0
  go_wp2
  go_loopw [3, 12] (fun v i wr => ∃ k : Nat, k ≤ n ∧ i = .int .i64 k ∧ HxR bs w k 0 v wr) (fun _ i _ => n - (intOf i).toNat)
  case atStart => exact ⟨0, Nat.zero_le _, rfl, hown0, hb0⟩
  case round =>
    obtain ⟨wi, rfl⟩ : ∃ wi : World, wi = wr := ⟨_, rfl⟩
    obtain ⟨k, hk, rfl, hown, hbi⟩ := hrel
    clear hown0 hb0
    by_cases hlt : k < n
    · have hx : bs[k]? = some bs[k] := List.getElem?_eq_getElem (by omega)
      have hcell : wi.cell? ⟨blk, off + k, none⟩ = some (.int .u8 (bs[k].toNat : Int)) := (hbi.cell (p := ⟨blk, off + k, none⟩) hb).trans (HC.out k _ hx)
      have hy : bs[k].toNat < 256 := bs[k].toNat_lt
      obtain ⟨p, hp⟩ : ∃ p : Nat, bs[k].toNat / 16 = p := ⟨_, rfl⟩
      obtain ⟨q, hq⟩ : ∃ q : Nat, bs[k].toNat % 16 = q := ⟨_, rfl⟩
      have hand := bits15 bs[k].toNat hy
      rw [hq] at hand
      have hdiv : ((bs[k].toNat : Int) / 16) = (p : Int) := by omega
      have p0 : (0 : Int) ≤ (p : Int) := by omega
      have p1 : (p : Int) < 16 := by omega
      have q0 : (0 : Int) ≤ (q : Int) := by omega
      have q1 : (q : Int) < 16 := by omega
      have HP := Lib.hid hp; have HQ := Lib.hid hq; clear hp hq
      have s3 : 2 * k + 0 + 2 ≤ maxLen := by unfold maxLen; omega
      have s4 : (2 * k + 0 + 2) * 1 ≤ 140737488355328 := by omega
      have s5 : w.heap.size ≤ (wi.heap.size + 1) := by have := hbi.size; omega
      have S3 := Lib.hid s3; have S4 := Lib.hid s4; have S5 := Lib.hid s5
      clear s3 s4 s5
      go_wp2
      go_region_law ((refine step_append_lies _ (by rfl) _ _ 33 (by rfl) w.heap.size 5 i0 (.int .u8 0) 1 1 Tryz.underlying33 HI.out hz0 hz1 hz2 rfl (by decide) _ _ _ (by rfl) (hown.drew.alloc _) ⟨wi.heap.size, 0, none⟩ 2 2 _ (by rfl) (by rfl) (World.news_of_block (heap_alloc_new _ _)) (one2 _ _) (by omega) S3.out S4.out (by simp; exact S5.out) (wi.heap.size + 1) (by simp) ?_; intro g cap w2 hown2 hgrow2 hat2 hlt2))
      all_goals
        have hnx := own_next2 (c := digs[p]'(by rw [show digs.size = 16 from rfl]; omega)) (d := digs[q]'(by rw [show digs.size = 16 from rfl]; omega)) hbi (hown.drew.alloc _) hown2 hgrow2
        rw [digs_at p (by omega), digs_at q (by omega), ← HP.out, ← HQ.out] at hnx
        have hR : HxR bs w (k + 1) 0 (.slice (some ⟨g, 0, none⟩) (2 * k + 0 + 2) cap) w2 := by
          refine ⟨?_, hnx.2⟩
          rw [← HxL_2 bs k (by omega), HxL_1 bs k (by omega), HxL_0 bs k (by omega), List.append_assoc]
          exact hnx.1
        clear hnx hown hown2 hgrow2 hat2 hlt2
        go_wp2
        go_roundw
        case rel => exact ⟨k + 1, by omega, by go_num, hR⟩
        case measure => simp [intOf]; omega
    · have hk' : k = n := by omega
      have hL : HxL bs k 0 = hexL bs := by
        unfold HxL; rw [List.take_of_length_le (by omega)]; simp
      rw [hL] at hown
      have hcv := conv_own hown
      clear hown
      go_wp2
      go_ret
      exact ⟨rfl, hbi⟩
set_option maxHeartbeats 1000000 in
theorem hex_empty (A : Option Addr) (c : Nat) (w : World) :
    Calls Tryz.prog 70 #[.slice A 0 c] w fun e w' => e = .returned (.string ⟨#[]⟩) ∧ Below w.heap.size w w' := by
  obtain ⟨i0, hi, hz0, hz1, hz2⟩ := info_parts info_u8
  have HI := Lib.hid hi
  clear hi
  go_enter Tryz.func70, Tryz.ntmps70
  go_wp2_with (at_make; refine wpList_make_own _ rfl _ _ 33 rfl w.heap.size 5 i0 (.int .u8 0) 1 Tryz.underlying33 HI.out hz0 hz1 .i64 .i64 0 0 rfl rfl rfl ?m1 ?m2 ?m3 ?_)
  case m1 => omega
  case m2 => unfold maxLen; omega
  case m3 => exact Nat.le_refl _
  intro w1 hown0 hg0
  have hb0 : Below w.heap.size w w1 := (Below.refl _ w).grown hg0 (Nat.le_refl _) (fun k hk => by cases hk)
  clear hg0
  have hcv := conv_own (l := []) hown0
  go_wp2
  go_loopw [3, 12] (fun v i wr => v = .slice (some ⟨w.heap.size, 0, none⟩) 0 0 ∧ i = .int .i64 ((0 : Nat) : Int) ∧ wr = w1) (fun _ i _ => 0)
  case atStart => exact ⟨rfl, rfl, rfl⟩
  case round =>
    obtain ⟨rfl, rfl, rfl⟩ := hrel
    go_wp2
    go_ret
    exact ⟨rfl, hb0⟩
end Go.Proofs.YtmfdnbjmfgljlaaGreatDoor
