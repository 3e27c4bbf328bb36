/-
  A region that draws its order: whatever comes next, what holds goes on to hold; so the region comes to what is read.
-/
import Derived.Test.YtbhgibpocbmipaaDenL
namespace Go.Den
open Go.RowKit
noncomputable section

section
variable {P : Program} {E : Env P} {e : Ev} {g : AHeap} {ops : List Oper} {h0 : AHeap} {t0 : Array Value} {nx0 N : Nat} {rs : List DR} {ρ0 : Nat → Nat} {w0 : World} {l : Array Bool}
theorem getD_set {l : Array Bool} {i j : Nat} (hi : i < l.size) : (l.setIfInBounds i true).getD j false = (l.getD j false || Nat.beq j i) := by
  simp only [Array.getD_eq_getD_getElem?, Array.getElem?_setIfInBounds]
  by_cases h : i = j
  · subst h; simp [hi]
  · rw [if_neg h]
    cases hb : Nat.beq j i
    · simp
    · rw [Nat.beq_eq] at hb; exact absurd hb.symm h
theorem putsT_one (W : Whole E e g ops h0 t0 nx0 N rs) {i : Nat} {o : Oper} {r : DR} (ho : ops[i]? = some o) (hr : rs[i]? = some r) {L L' : Nat → Bool} (hL' : L' i = true) (hne : ∀ j, j ≠ i → L' j = L j) :
    putT (putsT L 0 ops rs t0) o.dst r.v = putsT L' 0 ops rs t0 := by
  apply Array.ext_getElem?
  intro τ
  have hdst : ∀ (k : Nat) (p : Oper), ops[k]? = some p → k ≠ i → o.dst = some τ → p.dst ≠ some τ := fun k p hp hk hd => (regOk_dst W.ok hp ho hk hd).1
  by_cases hd : o.dst = some τ
  · by_cases hsz : τ < t0.size
    · rw [putsT_self (r := r) 0 ops rs t0 i ho hr (by rw [Nat.zero_add]; exact hL') hd hsz fun k p hp hk _ => hdst k p hp hk hd, hd]
      simp only [putT, Array.getElem?_setIfInBounds, if_true]
      rw [if_pos (by rw [putsT_size]; exact hsz)]
    · have hs1 : (putT (putsT L 0 ops rs t0) o.dst r.v).size = t0.size := by rw [hd]; simp only [putT, Array.size_setIfInBounds]; exact putsT_size _ _ _ _ _
      rw [Array.getElem?_eq_none (by rw [hs1]; exact Nat.le_of_not_lt hsz), Array.getElem?_eq_none (by rw [putsT_size]; exact Nat.le_of_not_lt hsz)]
  · rw [putT_other hd]
    refine putsT_look 0 ops rs t0 t0 rfl fun j p hp hj hd2 => ?_
    rw [Nat.zero_add] at hj
    by_cases hji : j = i
    · subst hji; rw [ho] at hp; cases hp; exact hd hd2
    · exact hj (hne j hji).symm

theorem inv_step (hs : Sound P e) (W : Whole E e g ops h0 t0 nx0 N rs) (R0 : Rel ρ0 g h0 nx0 w0) (T0 : SWf t0 nx0) {Q : Exit → Act → World → Prop} {a : Act} {w : World} {i : Nat}
    (I : Inv E e g ops h0 t0 nx0 N rs ρ0 w0 l a w) (hi : i ∈ Region.ready .any ops.toArray l) : wpOp P ops.toArray Q i (Inv E e g ops h0 t0 nx0 N rs ρ0 w0 (l.setIfInBounds i true)) a w := by
  obtain ⟨o, X⟩ := nxt_of I.size I.closed hi
  have hil := (List.getElem?_eq_some_iff.1 X.ho).1
  obtain ⟨r, hr⟩ := W.lenr X.ho
  obtain ⟨ρ, rfl, R, S⟩ := I.world
  have ord := W.ord i r hr
  have hls : i < l.size := by rw [I.size]; exact hil
  have RO := W.rok i o r X.ho hr
  -- what holds of the greater set
  have hL' : (l.setIfInBounds i true).getD i false = true := by rw [getD_set hls]; simp
  have hne : ∀ j, j ≠ i → (l.setIfInBounds i true).getD j false = l.getD j false := fun j hj => by
    rw [getD_set hls]
    cases hb : Nat.beq j i
    · simp
    · rw [Nat.beq_eq] at hb; exact absurd hb hj
  have hsize' : (l.setIfInBounds i true).size = ops.length := by simp [I.size]
  have hclosed' : ∀ i' j, i' < ops.length → (l.setIfInBounds i true).getD i' false = true → dep (masksGo ops []) i' j = true → (l.setIfInBounds i true).getD j false = true := by
    intro i' j hi' hl hd
    by_cases hji : j = i
    · rw [hji]; exact hL'
    · rw [hne j hji]
      by_cases hii : i' = i
      · rw [hii] at hd; exact X.dep j hd
      · rw [hne i' hii] at hl; exact I.closed i' j hi' hl hd
  have hlt_of : ∀ j, l.getD j false = true → (hj : j < ops.length) → ∀ q, rs[j]? = some q → j ≠ i := fun j hl hj q hq => by rintro rfl; rw [X.no] at hl; cases hl
  -- names in what has been told
  have origin := W.origin R0 (L := fun j => l.getD j false) I.closed I.upd
  have hname : ∀ b B, (putsH (fun j => l.getD j false) 0 rs h0).get b = some B → b < r.n0 ∨ r.n1 ≤ b := by
    intro b B hb
    have h1 : b < nx0 ∨ ∃ (k : Nat) (q : DR), rs[k]? = some q ∧ l.getD k false = true ∧ q.n0 ≤ b ∧ b < q.n1 := by
      rcases putsH_from 0 rs h0 hb with h1 | ⟨j, q, h1, h2, h3⟩
      · exact .inl (R0.lt b B h1).2
      · rw [Nat.zero_add] at h2; exact origin j q h1 h2 b B h3
    rcases h1 with h1 | ⟨k, q, h1, h2, h3, h4⟩
    · left; omega
    · have hki : k ≠ i := by rintro rfl; rw [X.no] at h2; cases h2
      rcases Nat.lt_or_gt_of_ne hki with h5 | h5
      · left; have := ord.2.2.2 k q h5 h1; omega
      · right; have := (W.ord k q h1).2.2.2 i r h5 hr; omega
  have hunord : ∀ (j : Nat) (q : DR), rs[j]? = some q → l.getD j false = true → i < j → ApartD r q := by
    intro j q hq hl hij
    obtain ⟨p, hp⟩ := W.leno hq
    have hjl := (List.getElem?_eq_some_iff.1 hp).1
    rcases noClash_out W.nc hij hr hq with h1 | h1
    · exact absurd h1 (X.nod j hjl hl)
    · exact apartD_out h1
  have hrange : r.n0 < r.n1 → (∀ v ∈ putsT (fun j => l.getD j false) 0 ops rs t0, avoid r.n0 r.n1 v = true) ∧
      ∀ b B, (putsH (fun j => l.getD j false) 0 rs h0).get b = some B → BAvoid r.n0 r.n1 B := by
    intro hlt
    refine ⟨fun v hv => ?_, fun b B hb => ?_⟩
    · rcases putsT_from 0 ops rs t0 hv with h1 | ⟨j, q, h1, _, h2, rfl⟩
      · exact avoid_bel ord.1 v (T0 v h1)
      · rw [Nat.zero_add] at h2
        have hji : j ≠ i := by rintro rfl; rw [X.no] at h2; cases h2
        rcases Nat.lt_or_gt_of_ne hji with h5 | h5
        · exact avoid_bel (ord.2.2.2 j q h5 h1) _ (I.upd j q h1 h2).v
        · exact ((hunord j q h1 h2 h5).v hlt).1
    · rcases putsH_from 0 rs h0 hb with h1 | ⟨j, q, h1, h2, h3⟩
      · exact BAvoid.of_bel ord.1 (R0.hbel b B h1)
      · rw [Nat.zero_add] at h2
        have hji : j ≠ i := by rintro rfl; rw [X.no] at h2; cases h2
        rcases Nat.lt_or_gt_of_ne hji with h5 | h5
        · exact BAvoid.of_bel (ord.2.2.2 j q h5 h1) ((I.upd j q h1 h2).b b B h3).1
        · exact ((hunord j q h1 h2 h5).v hlt).2 b B h3
  have hwl : Region.wanted o (yielded ops.toArray (actOf ρ (putsT (fun j => l.getD j false) 0 ops rs t0)).tmps) = wantedA ops.toArray o (putsT (fun j => Nat.blt j i) 0 ops rs t0) := by
    rw [wantedA_eq]; exact (wantedA_look fun τ hτ => W.looks X hτ).symm
  unfold wpOp
  have hoA : ops.toArray[i]? = some o := by simpa using X.ho
  simp only [hoA]
  rw [hwl]
  rcases RO.how with ⟨hw, ⟨T, hT, hq⟩, hst, _⟩ | ⟨hw, hF, hU, hV, hnn⟩
  · rw [hw, if_pos rfl]
    left
    -- the known part for this operation
    have hfoot := fun {b : Nat} {B : ABlk} (hb : r.F.get b = some B) => W.foot R0 X hr I.upd hb
    have hb0 : B0 ≤ r.n0 := Nat.le_trans R0.base ord.1
    have hFg : ∀ b B, (r.F ++ g : AHeap).get b = some B → r.F.get b = some B ∨ g.get b = some B := by
      intro b B hb
      rw [AHeap.get_append] at hb
      cases hf : r.F.get b with
      | some C => rw [hf] at hb; exact .inl hb
      | none => rw [hf] at hb; exact .inr (by simpa using hb)
    have Rop : Rel ρ (bif isStore o then g else r.F ++ g) (bif isStore o then r.F else []) r.n0 w := by
      cases hso : isStore o
      · simp only [cond_false]
        refine ⟨R.low, hb0, fun b B hb => ?_, fun b B hb => ?_, fun b b' B B' hb => ?_, fun b b' B B' hb => ?_, fun b B hb => ?_, fun b B hb => ?_, fun b B hb => ?_, fun b B hb => ?_⟩
        · rcases hFg b B hb with h1 | h1
          · exact R.hat b B (hfoot h1).1
          · exact R.gat b B h1
        · cases hb
        · cases hb
        · cases hb
        · cases hb
        · rcases hFg b B hb with h1 | h1
          · exact (hfoot h1).2.1
          · have := R0.glt b B h1; omega
        · cases hb
        · rcases hFg b B hb with h1 | h1
          · exact (hfoot h1).2.2.1
          · exact (R0.gbel b B h1).mono ord.1
      · simp only [cond_true]
        exact ⟨R.low, hb0, R.gat, fun b B hb => R.hat b B (hfoot hb).1, fun b b' B B' h1 h2 => R.inj b b' B B' (hfoot h1).1 (hfoot h2).1, fun b b' B B' h1 h2 => R.dis b b' B B' (hfoot h1).1 h2,
          fun b B hb => ⟨(hfoot hb).2.2.2, (hfoot hb).2.1⟩, fun b B hb => Nat.lt_of_lt_of_le (R0.glt b B hb) ord.1, fun b B hb => (hfoot hb).2.2.1, fun b B hb => (R0.gbel b B hb).mono ord.1⟩
    have hOS := opD_sound hs hq
    rw [hT] at hOS
    refine hOS ρ w Rop (fun x hx hok => W.opsBel R0 T0 X hr I.upd hx hok) _ _ _ (fun x hx => ?_) ?_
    · refine eval_look (ops := ops.toArray) (fun τ hτ => ?_) hx
      have := W.looks X hτ
      simp only [actOf, Array.getElem?_map, this]
    · intro ρ' w' hbv R' S'
      have hin : ∀ b B, (bif isStore o then r.F else ([] : AHeap)).get b = some B → isStore o = true ∧ r.F.get b = some B := by
        intro b B hb
        cases hso : isStore o
        · rw [hso] at hb; cases hb
        · rw [hso] at hb; exact ⟨rfl, hb⟩
      let ρ2 : Nat → Nat := fun b => if r.n0 ≤ b ∧ b < r.n1 then ρ' b else ρ b
      have hag : ∀ b, b < r.n1 → ρ2 b = ρ' b := fun b hb => by
        show (if r.n0 ≤ b ∧ b < r.n1 then ρ' b else ρ b) = ρ' b
        by_cases h : r.n0 ≤ b
        · rw [if_pos ⟨h, hb⟩]
        · rw [if_neg (fun h2 => h h2.1)]; exact (S'.agree b (by omega)).symm
      have hout : ∀ b, b < r.n0 ∨ r.n1 ≤ b → ρ2 b = ρ b := fun b hb => by
        show (if r.n0 ≤ b ∧ b < r.n1 then ρ' b else ρ b) = ρ b
        rw [if_neg (fun h2 => by omega)]
      have hsame : ¬ r.n0 < r.n1 → ρ2 = ρ := fun h => funext fun b => hout b (by omega)
      have hvals : ∀ v ∈ putsT (fun j => l.getD j false) 0 ops rs t0, ren ρ2 v = ren ρ v := fun v hv => by
        by_cases hlt : r.n0 < r.n1
        · exact ren_avoid hout v ((hrange hlt).1 v hv)
        · rw [hsame hlt]
      have hblk : ∀ b B c u, (putsH (fun j => l.getD j false) 0 rs h0).get b = some B → BlkAt ρ u c B → BlkAt ρ2 u c B := fun b B c u hb hB => by
        by_cases hlt : r.n0 < r.n1
        · exact hB.avoid hout ((hrange hlt).2 b B hb)
        · rw [hsame hlt]; exact hB
      have hupd : UpdOk r := by
        refine ⟨hbv, fun c B hc => ⟨R'.hbel c B hc, (R'.lt c B hc).1, (R'.lt c B hc).2, ?_⟩⟩
        rcases Nat.lt_or_ge c r.n0 with h1 | h1
        · obtain ⟨C, hC⟩ := S'.old c B hc h1
          exact .inr ⟨C, (hin c C hC).2⟩
        · exact .inl h1
      have hupd' : ∀ (j : Nat) (q : DR), rs[j]? = some q → (l.setIfInBounds i true).getD j false = true → UpdOk q := by
        intro j q hjq hl
        by_cases hji : j = i
        · rw [hji, hr] at hjq; cases hjq; exact hupd
        · rw [hne j hji] at hl; exact I.upd j q hjq hl
      have key : ∀ b B, (putsH (fun j => (l.setIfInBounds i true).getD j false) 0 rs h0).get b = some B → r.upd.get b = some B ∨ (r.upd.get b = none ∧ (putsH (fun j => l.getD j false) 0 rs h0).get b = some B) := by
        intro b B hb
        cases hu : r.upd.get b with
        | none =>
          refine .inr ⟨rfl, ?_⟩
          rw [← hb]
          refine putsH_look 0 rs h0 h0 rfl fun j q hjq hj => ?_
          rw [Nat.zero_add] at hj
          by_cases hji : j = i
          · rw [hji, hr] at hjq; cases hjq; exact hu
          · exact absurd (hne j hji).symm hj
        | some C =>
          left
          rw [← hb]
          refine (putsH_self 0 rs h0 i hr (by rw [Nat.zero_add]; exact hL') hu fun k q hq hik hk => ?_).symm
          rw [Nat.zero_add, hne k (by omega)] at hk
          obtain ⟨p, hp⟩ := W.leno hq
          have hkl := (List.getElem?_eq_some_iff.1 hp).1
          exact W.apartU hr hq (by omega) (fun hd => by have := dep_lt hil hd; omega) (X.nod k hkl hk) hupd (I.upd k q hq hk) b C hu
      have hF : ∀ b B, r.F.get b = some B → (putsH (fun j => l.getD j false) 0 rs h0).get b = some B := fun b B hb => (hfoot hb).1
      -- an old block that is not written stands where it stood
      have hstay : ∀ b B, r.upd.get b = none → (putsH (fun j => l.getD j false) 0 rs h0).get b = some B → w'.heap[ρ b]? = w.heap[ρ b]? := by
        intro b B hu hb
        refine S'.keep (ρ b) (R.hat b B hb).lt fun c C hc he => ?_
        obtain ⟨hso, hC⟩ := hin c C hc
        have := R.inj c b C B (hF c C hC) hb he
        subst this
        have := hst hso c C hC
        rw [hu] at this; cases this
      have hgstay : ∀ b B, g.get b = some B → w'.heap[ρ b]? = w.heap[ρ b]? := by
        intro b B hb
        refine S'.keep (ρ b) (R.gat b B hb).lt fun c C hc he => ?_
        obtain ⟨hso, hC⟩ := hin c C hc
        exact R.dis c b C B (hF c C hC) hb he
      have hg2 : ∀ b B, g.get b = some B → ρ2 b = ρ b := fun b B hb => hout b (.inl (by have := R0.glt b B hb; omega))
      have hplace : ∀ b B, (putsH (fun j => (l.setIfInBounds i true).getD j false) 0 rs h0).get b = some B →
          (r.upd.get b = some B ∧ r.n0 ≤ b ∧ b < r.n1 ∧ ρ2 b = ρ' b ∧ w.heap.size ≤ ρ2 b) ∨ (∃ C, (putsH (fun j => l.getD j false) 0 rs h0).get b = some C ∧ ρ2 b = ρ b) := by
        intro b B hb
        rcases key b B hb with h1 | ⟨_, h1⟩
        · have hb1 := (R'.lt b B h1).2
          rcases Nat.lt_or_ge b r.n0 with h2 | h2
          · obtain ⟨C, hC⟩ := S'.old b B h1 h2
            exact .inr ⟨C, hF b C (hin b C hC).2, hout b (.inl h2)⟩
          · exact .inl ⟨h1, h2, hb1, hag b hb1, by rw [hag b hb1]; exact S'.new b B h1 h2⟩
        · exact .inr ⟨B, h1, hout b (hname b B h1)⟩
      refine ⟨hsize', hclosed', hupd', ρ2, ?_, ?_, ?_⟩
      · have e1 : ren ρ' r.v = ren ρ2 r.v := (ren_agree hag r.v hbv).symm
        have e2 : actOf ρ (putsT (fun j => l.getD j false) 0 ops rs t0) = actOf ρ2 (putsT (fun j => l.getD j false) 0 ops rs t0) := by
          unfold actOf; rw [Array.map_congr_left fun v hv => (hvals v hv).symm]
        show (actOf ρ _).put o.dst (ren ρ' r.v) = _
        rw [e1, e2, actOf_put, putsT_one W X.ho hr hL' hne]
      · refine ⟨fun b hb => ?_, R.base, fun b B hb => ?_, fun b B hb => ?_, fun b b' B B' h1 h2 he => ?_, fun b b' B B' h1 h2 => ?_, fun b B hb => ?_, R.glt, fun b B hb => ?_, R.gbel⟩
        · rw [hout b (.inl (by omega))]; exact R.low b hb
        · rw [hg2 b B hb]
          by_cases hlt : r.n0 < r.n1
          · exact ((R.gat b B hb).keep (hgstay b B hb)).avoid hout (BAvoid.of_bel ord.1 (R0.gbel b B hb))
          · rw [hsame hlt]; exact (R.gat b B hb).keep (hgstay b B hb)
        · rcases key b B hb with h1 | ⟨hu, h1⟩
          · have hb1 := (R'.lt b B h1).2
            rw [hag b hb1]; exact (R'.hat b B h1).agree hag (R'.hbel b B h1)
          · rw [hout b (hname b B h1)]
            exact hblk b B _ _ h1 ((R.hat b B h1).keep (hstay b B hu h1))
        · rcases hplace b B h1 with ⟨k1, k2, k3, k4, k5⟩ | ⟨C, k1, k2⟩ <;> rcases hplace b' B' h2 with ⟨m1, m2, m3, m4, m5⟩ | ⟨D, m1, m2⟩
          · rw [k4, m4] at he; exact R'.inj b b' B B' k1 m1 he
          · rw [m2] at he; have := (R.hat b' D m1).lt; omega
          · rw [k2] at he; have := (R.hat b C k1).lt; omega
          · rw [k2, m2] at he; exact R.inj b b' C D k1 m1 he
        · rw [hg2 b' B' h2]
          have hlt := (R.gat b' B' h2).lt
          rcases hplace b B h1 with ⟨k1, k2, k3, k4, k5⟩ | ⟨C, k1, k2⟩
          · omega
          · rw [k2]; exact R.dis b b' C B' k1 h2
        · rcases key b B hb with h1 | ⟨_, h1⟩
          · have h2 := R'.lt b B h1; exact ⟨h2.1, Nat.lt_of_lt_of_le h2.2 ord.2.2.1⟩
          · exact R.lt b B h1
        · rcases key b B hb with h1 | ⟨_, h1⟩
          · exact (R'.hbel b B h1).mono ord.2.2.1
          · exact R.hbel b B h1
      · refine ⟨S.le, fun b hb => ?_, fun b B hb hn => ?_, fun b B hb hn => ?_, Nat.le_trans S.size S'.size, S'.os.trans S.os, S'.tape.trans S.tape, S'.output.trans S.output, fun c hc hno => ?_⟩
        · rw [hout b (.inl (by omega))]; exact S.agree b hb
        · rcases hplace b B hb with ⟨k1, k2, k3, k4, k5⟩ | ⟨C, k1, k2⟩
          · omega
          · exact S.old b C k1 hn
        · rcases hplace b B hb with ⟨k1, k2, k3, k4, k5⟩ | ⟨C, k1, k2⟩
          · have := S.size; omega
          · rw [k2]; exact S.new b C k1 hn
        · refine (S'.keep c (by have := S.size; omega) fun b B hb he => ?_).trans (S.keep c hc hno)
          have h1 := hF b B (hin b B hb).2
          by_cases hbn : b < nx0
          · obtain ⟨C, hC⟩ := S.old b B h1 hbn
            exact hno b C hC (by rw [← S.agree b hbn]; exact he)
          · have := S.new b B h1 (by omega); omega
  · rw [hw, if_neg (by simp)]
    have hupd : UpdOk r := ⟨by rw [hV]; exact bel_undef _, fun c B hc => by rw [hU] at hc; cases hc⟩
    have hupd' : ∀ (j : Nat) (q : DR), rs[j]? = some q → (l.setIfInBounds i true).getD j false = true → UpdOk q := by
      intro j q hjq hl
      by_cases hji : j = i
      · rw [hji, hr] at hjq; cases hjq; exact hupd
      · rw [hne j hji] at hl; exact I.upd j q hjq hl
    have heq : ∀ b, (putsH (fun j => (l.setIfInBounds i true).getD j false) 0 rs h0).get b = (putsH (fun j => l.getD j false) 0 rs h0).get b := by
      intro b
      refine putsH_look 0 rs h0 h0 rfl fun j q hjq hj => ?_
      rw [Nat.zero_add] at hj
      by_cases hji : j = i
      · rw [hji, hr] at hjq; cases hjq; rw [hU]; rfl
      · exact absurd (hne j hji) hj
    refine ⟨hsize', hclosed', hupd', ρ, ?_, R.sub (fun b B hb => by rw [← heq]; exact hb) (fun _ _ hb => hb), S.alike heq⟩
    have := actOf_put (ρ := ρ) (t := putsT (fun j => l.getD j false) 0 ops rs t0) (d := o.dst) (v := undef)
    rw [ren_undef] at this
    rw [this, ← hV, putsT_one W X.ho hr hL' hne]

theorem ready_done {ops : List Oper} (hok : regOk ops = true) {l : Array Bool} (hsz : l.size = ops.length) (hr : Region.ready .any ops.toArray l = []) : ∀ i, i < ops.length → l.getD i false = true := by
  intro i
  induction i using Nat.strongRecOn with
  | _ i ih =>
    intro hi
    cases hl : l.getD i false
    · exfalso
      have : i ∈ Region.ready .any ops.toArray l := by
        refine mem_ready.2 ⟨?_, ops[i], by simp [hi], fun x hx hb => ?_⟩
        · simp only [Array.getD_eq_getD_getElem?] at hl ⊢
          rw [Array.getElem?_eq_getElem (by omega)] at hl ⊢
          exact hl
        · have hlt := regOk_edge hok (List.getElem?_eq_getElem hi) hx hb
          exact ih x.on hlt (by omega)
      rw [hr] at this; cases this
    · rfl

theorem drawT_sound (hs : Sound P e) (id : Nat) {t : FT} {h : AHeap} {nx : Nat} {st' : St} (hok : regOk ops = true) (hc : (drawT E e g ops t h nx).run = some st') {ρ : Nat → Nat} {w : World} (R : Rel ρ g h nx w) (ht : SWf t.arr nx) :
    (Code.region id ops.toArray true).wp P (Post g .normal st' ρ h nx w) (actOf ρ t.arr) w := by
  unfold drawT at hc
  simp only at hc
  obtain ⟨s, h1, hc⟩ := Tree.run_bind_out hc
  obtain ⟨hnc, hc⟩ := run_guardF hc
  cases hc
  have I := drawGo_out (nx0 := nx) (t0 := t.arr) ops 0 ⟨[], t, h, nx⟩ s h1 rfl ⟨rfl, (by cases ops <;> rfl), rfl, Nat.le_refl _, (fun j o r _ hr => by cases hr), (fun j r hr => by cases hr)⟩ (Nat.zero_le _)
  have W : Whole E e g ops h t.arr nx s.nx s.rs := ⟨hok, I.len, I.rok, I.ord, hnc⟩
  refine wp_region_any E.hmix ?_
  have hbase : Inv E e g ops h t.arr nx s.nx s.rs ρ w (Array.replicate ops.toArray.size false) (actOf ρ t.arr) w.drew := by
    have hf : ∀ j, (Array.replicate ops.toArray.size false).getD j false = false := fun j => by
      simp only [Array.getD_eq_getD_getElem?, Array.getElem?_replicate]; split <;> rfl
    have hT : putsT (fun j => (Array.replicate ops.toArray.size false).getD j false) 0 ops s.rs t.arr = t.arr := by
      apply Array.ext_getElem?
      intro τ
      exact putsT_stay 0 ops s.rs t.arr fun j o _ hj => by rw [hf] at hj; cases hj
    have hH : ∀ b, (putsH (fun j => (Array.replicate ops.toArray.size false).getD j false) 0 s.rs h).get b = h.get b := fun b =>
      putsH_stay 0 s.rs h fun j o _ hj => by rw [hf] at hj; cases hj
    have R2 := (R.drew).raise I.nx
    refine ⟨by simp, (fun i j _ hl => by rw [hf] at hl; cases hl), (fun j r _ hl => by rw [hf] at hl; cases hl), ρ, by rw [hT], R2.sub (fun b B hb => by rw [← hH]; exact hb) (fun _ _ hb => hb), ?_⟩
    have S0 : Step ρ h nx w ρ h s.nx w.drew := ⟨I.nx, fun _ _ => rfl, fun b B hb _ => ⟨B, hb⟩, fun b B hb hn => absurd (R.lt b B hb).2 (by omega), Nat.le_refl _, rfl, rfl, rfl, fun _ _ _ => rfl⟩
    exact S0.alike hH
  refine wpAny_inv (Inv := Inv E e g ops h t.arr nx s.nx s.rs ρ w) (fun l a w' I => by simpa using I.size) (fun l a w' i I hi => inv_step hs W R ht I hi) (fun l a w' J hr => ?_) ops.toArray.size _ _ _ ?_ hbase
  · have hall := ready_done hok J.size hr
    obtain ⟨ρ', ha, R', S'⟩ := J.world
    have eT : putsT (fun j => l.getD j false) 0 ops s.rs t.arr = s.t.arr := by
      rw [I.t]; exact putsT_congr 0 ops s.rs t.arr fun j _ h2 => by rw [Nat.zero_add, I.len] at h2; exact hall j h2
    have eH : putsH (fun j => l.getD j false) 0 s.rs h = s.H := by
      rw [I.H]; exact putsH_congr 0 s.rs h fun j _ h2 => by rw [Nat.zero_add, I.len] at h2; exact hall j h2
    rw [eT] at ha
    rw [eH] at R' S'
    refine ⟨rfl, ρ', ha, fun v hv => ?_, R', S'⟩
    have hv' : v ∈ putsT (fun _ => true) 0 ops s.rs t.arr := by rw [← I.t]; exact hv
    rcases putsT_from 0 ops s.rs t.arr hv' with h1 | ⟨j, q, h1, h2, _, rfl⟩
    · exact bel_mono I.nx v (ht v h1)
    · exact bel_mono (W.ord j q h1).2.2.1 _ (J.upd j q h1 (hall j h2)).v
  · unfold unl
    exact Nat.le_trans List.countP_le_length (by simp)
end
end
end Go.Den
