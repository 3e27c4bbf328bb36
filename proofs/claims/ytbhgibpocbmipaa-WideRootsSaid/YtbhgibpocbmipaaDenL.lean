/-
  A region that draws its order: one operation more.
-/
import Derived.Test.YtbhgibpocbmipaaDenK
namespace Go.Den
open Go.RowKit
noncomputable section

section
variable {P : Program} {E : Env P} {e : Ev} {g : AHeap} {ops : List Oper} {h0 : AHeap} {t0 : Array Value} {nx0 N : Nat} {rs : List DR} {ρ0 : Nat → Nat} {w0 : World} {l : Array Bool}
theorem Whole.lenr (W : Whole E e g ops h0 t0 nx0 N rs) {i : Nat} {o : Oper} (ho : ops[i]? = some o) : ∃ r, rs[i]? = some r :=
  ⟨_, List.getElem?_eq_getElem (by rw [W.len]; exact (List.getElem?_eq_some_iff.1 ho).1)⟩
theorem Whole.leno (W : Whole E e g ops h0 t0 nx0 N rs) {i : Nat} {r : DR} (hr : rs[i]? = some r) : ∃ o, ops[i]? = some o :=
  ⟨_, List.getElem?_eq_getElem (by rw [← W.len]; exact (List.getElem?_eq_some_iff.1 hr).1)⟩
/-- Where the blocks that an operation may look at come from. -/
theorem Whole.footFrom (W : Whole E e g ops h0 t0 nx0 N rs) {i : Nat} {r : DR} (hr : rs[i]? = some r) {b : Nat} {B : ABlk} (hb : r.F.get b = some B) :
    h0.get b = some B ∨ ∃ (j : Nat) (q : DR), rs[j]? = some q ∧ dep (masksGo ops []) i j = true ∧ q.upd.get b = some B := by
  obtain ⟨o, ho⟩ := W.leno hr
  rcases (W.rok i o r ho hr).how with ⟨_, _, _, h4⟩ | ⟨_, h2, _⟩
  · rcases h4 b B hb with h5 | h5
    · rcases putsH_from 0 rs h0 h5 with h6 | ⟨j, q, h6, h7, h8⟩
      · exact .inl h6
      · rw [Nat.zero_add, blt_iff] at h7
        by_cases hd : dep (masksGo ops []) i j = true
        · exact .inr ⟨j, q, h6, hd, h8⟩
        · have hd2 : ¬ dep (masksGo ops []) j i = true := fun hd2 => by
            obtain ⟨p, hp⟩ := W.leno h6
            have := dep_lt (List.getElem?_eq_some_iff.1 hp).1 hd2; omega
          have := (W.apart hr h6 (by omega) hd hd2).1 b B hb
          rw [this] at h8; cases h8
    · rcases putsH_from 0 rs h0 h5 with h6 | ⟨j, q, h6, h7, h8⟩
      · exact .inl h6
      · rw [Nat.zero_add] at h7; exact .inr ⟨j, q, h6, h7, h8⟩
  · rw [h2] at hb; cases hb
/-- Where a name that is written comes from. -/
theorem Whole.origin (W : Whole E e g ops h0 t0 nx0 N rs) (R0 : Rel ρ0 g h0 nx0 w0) {L : Nat → Bool} (hcl : ∀ i j, i < ops.length → L i = true → dep (masksGo ops []) i j = true → L j = true)
    (hu : ∀ (j : Nat) (r : DR), rs[j]? = some r → L j = true → UpdOk r) : ∀ (j : Nat) (r : DR), rs[j]? = some r → L j = true → ∀ b B, r.upd.get b = some B →
    b < nx0 ∨ ∃ (k : Nat) (q : DR), rs[k]? = some q ∧ L k = true ∧ q.n0 ≤ b ∧ b < q.n1 := by
  intro j
  induction j using Nat.strongRecOn with
  | _ j ih =>
    intro r hr hL b B hb
    obtain ⟨_, _, h3, h4⟩ := (hu j r hr hL).b b B hb
    rcases h4 with h4 | ⟨C, hC⟩
    · exact .inr ⟨j, r, hr, hL, h4, h3⟩
    · obtain ⟨o, ho⟩ := W.leno hr
      have hjl := (List.getElem?_eq_some_iff.1 ho).1
      rcases W.footFrom hr hC with h5 | ⟨k, q, h5, h6, h7⟩
      · exact .inl (R0.lt b C h5).2
      · exact ih k (dep_lt hjl h6) q h5 (hcl j k hjl hL h6) b C h7
theorem Step.alike {ρ ρ' : Nat → Nat} {h h' k : AHeap} {nx nx' : Nat} {w w' : World} (S : Step ρ h nx w ρ' h' nx' w') (hk : ∀ b, k.get b = h'.get b) : Step ρ h nx w ρ' k nx' w' :=
  ⟨S.le, S.agree, fun b B hb => S.old b B (by rw [← hk]; exact hb), fun b B hb => S.new b B (by rw [← hk]; exact hb), S.size, S.os, S.tape, S.output, S.keep⟩

variable (W : Whole E e g ops h0 t0 nx0 N rs) (R0 : Rel ρ0 g h0 nx0 w0) (T0 : SWf t0 nx0)
include W
/-- What is known of the operation that is to run next. -/
structure Nxt (ops : List Oper) (l : Array Bool) (i : Nat) (o : Oper) : Prop where
  ho : ops[i]? = some o
  no : l.getD i false = false
  dep : ∀ j, dep (masksGo ops []) i j = true → l.getD j false = true
  nod : ∀ j, j < ops.length → l.getD j false = true → ¬ Den.dep (masksGo ops []) j i = true
omit W in
theorem nxt_of (hsz : l.size = ops.length) (hcl : ∀ i j, i < ops.length → l.getD i false = true → dep (masksGo ops []) i j = true → l.getD j false = true) {i : Nat} (hi : i ∈ Region.ready .any ops.toArray l) : ∃ o, Nxt ops l i o := by
  obtain ⟨h1, o, h2, h3⟩ := mem_ready.1 hi
  have ho : ops[i]? = some o := by simpa using h2
  have hil := (List.getElem?_eq_some_iff.1 ho).1
  have hno : l.getD i false = false := by
    simp only [Array.getD_eq_getD_getElem?] at h1 ⊢
    rw [Array.getElem?_eq_getElem (by omega)] at h1 ⊢
    exact h1
  refine ⟨o, ho, hno, fun j hj => ?_, fun j hj hl hd => ?_⟩
  · obtain ⟨x, hx, hb, hlt, h4⟩ := dep_edge ho hj
    have hx' := h3 x hx hb
    rcases h4 with h4 | h4
    · rw [← h4]; exact hx'
    · exact hcl x.on j (by omega) hx' h4
  · have := hcl j i hj hl hd
    rw [hno] at this; cases this
theorem Whole.looks {i : Nat} {o : Oper} (X : Nxt ops l i o) {τ : Nat} (hτ : τ ∈ o.looksAt ops.toArray) :
    (putsT (fun j => Nat.blt j i) 0 ops rs t0)[τ]? = (putsT (fun j => l.getD j false) 0 ops rs t0)[τ]? := by
  refine putsT_look 0 ops rs t0 t0 rfl fun j p hp hne hd => hne ?_
  rw [Nat.zero_add]
  have hil := (List.getElem?_eq_some_iff.1 X.ho).1
  have hjl := (List.getElem?_eq_some_iff.1 hp).1
  by_cases hji : i = j
  · subst hji
    rw [X.no]
    cases hb : Nat.blt i i
    · rfl
    · rw [blt_iff] at hb; omega
  · rcases (regOk_dst W.ok X.ho hp hji hd).2 hτ with h1 | h1
    · rw [X.dep j h1, blt_iff.2 (dep_lt hil h1)]
    · have hlt := dep_lt hjl h1
      cases hl : l.getD j false
      · cases hb : Nat.blt j i
        · rfl
        · rw [blt_iff] at hb; omega
      · exact absurd h1 (X.nod j hjl hl)
include R0
theorem Whole.foot {i : Nat} {o : Oper} {r : DR} (X : Nxt ops l i o) (hr : rs[i]? = some r) (hu : ∀ (j : Nat) (r : DR), rs[j]? = some r → l.getD j false = true → UpdOk r) {b : Nat} {B : ABlk} (hb : r.F.get b = some B) :
    (putsH (fun j => l.getD j false) 0 rs h0).get b = some B ∧ b < r.n0 ∧ BBel r.n0 B ∧ B0 ≤ b := by
  have hil := (List.getElem?_eq_some_iff.1 X.ho).1
  have hap : ∀ (j : Nat) (q : DR), rs[j]? = some q → l.getD j false = true → ¬ dep (masksGo ops []) i j = true → q.upd.get b = none := fun j q hq hl hd => by
    obtain ⟨p, hp⟩ := W.leno hq
    refine (W.apart hr hq ?_ hd (X.nod j (List.getElem?_eq_some_iff.1 hp).1 hl)).1 b B hb
    rintro rfl; rw [X.no] at hl; cases hl
  have hap2 : ∀ (j : Nat) (q : DR), rs[j]? = some q → j < i → ¬ dep (masksGo ops []) i j = true → q.upd.get b = none := fun j q hq hl hd => by
    obtain ⟨p, hp⟩ := W.leno hq
    refine (W.apart hr hq (by omega) hd fun h2 => ?_).1 b B hb
    have := dep_lt (List.getElem?_eq_some_iff.1 hp).1 h2; omega
  have hget : (putsH (fun j => l.getD j false) 0 rs h0).get b = some B := by
    rcases (W.rok i o r X.ho hr).how with ⟨_, _, _, h4⟩ | ⟨_, h2, _⟩
    · rcases h4 b B hb with h5 | h5
      · rw [← h5]
        refine putsH_look 0 rs h0 h0 rfl fun j q hq hne => ?_
        rw [Nat.zero_add] at hne
        by_cases hd : dep (masksGo ops []) i j = true
        · exact absurd (by rw [X.dep j hd, blt_iff.2 (dep_lt hil hd)]) hne
        · cases hl : l.getD j false
          · rw [hl] at hne
            have hbl : Nat.blt j i = true := by
              cases hb2 : Nat.blt j i
              · rw [hb2] at hne; exact absurd rfl hne
              · rfl
            exact hap2 j q hq (blt_iff.1 hbl) hd
          · exact hap j q hq hl hd
      · rw [← h5]
        refine putsH_look 0 rs h0 h0 rfl fun j q hq hne => ?_
        rw [Nat.zero_add] at hne
        by_cases hd : dep (masksGo ops []) i j = true
        · exact absurd (by rw [X.dep j hd, hd]) hne
        · cases hl : l.getD j false
          · rw [hl] at hne
            simp only [Bool.not_eq_true] at hd
            rw [hd] at hne; exact absurd rfl hne
          · exact hap j q hq hl hd
    · rw [h2] at hb; cases hb
  refine ⟨hget, ?_⟩
  have ord := W.ord i r hr
  rcases W.footFrom hr hb with h1 | ⟨j, q, h1, h2, h3⟩
  · have h4 := R0.lt b B h1
    exact ⟨by omega, (R0.hbel b B h1).mono ord.1, h4.1⟩
  · obtain ⟨u1, u2, u3, _⟩ := (hu j q h1 (X.dep j h2)).b b B h3
    have hle := ord.2.2.2 j q (dep_lt hil h2) h1
    exact ⟨by omega, u1.mono hle, u2⟩
include T0
theorem Whole.opsBel {i : Nat} {o : Oper} {r : DR} (X : Nxt ops l i o) (hr : rs[i]? = some r) (hu : ∀ (j : Nat) (r : DR), rs[j]? = some r → l.getD j false = true → UpdOk r) {x : Operand} (hx : x ∈ o.op.operands) (hok : opndOk x = true) :
    bel r.n0 ((⟨putsT (fun j => Nat.blt j i) 0 ops rs t0, []⟩ : Act).eval x) = true := by
  have hil := (List.getElem?_eq_some_iff.1 X.ho).1
  have ord := W.ord i r hr
  have R0' := R0.raise ord.1
  cases x with
  | tmp τ =>
    have hτ : τ ∈ o.looksAt ops.toArray := List.mem_append_left _ (List.mem_filterMap.2 ⟨.tmp τ, by simpa using hx, rfl⟩)
    have hl := W.looks X hτ
    have hev : (⟨putsT (fun j => Nat.blt j i) 0 ops rs t0, []⟩ : Act).eval (.tmp τ) = ((putsT (fun j => l.getD j false) 0 ops rs t0)[τ]?).getD undef := by
      show Array.getD _ _ _ = _
      rw [Array.getD_eq_getD_getElem?, hl]
    rw [hev]
    by_cases hsz : τ < t0.size
    · by_cases hex : ∃ (j : Nat) (p : Oper), ops[j]? = some p ∧ l.getD j false = true ∧ p.dst = some τ
      · obtain ⟨j, p, hp, hlj, hd⟩ := hex
        have hji : i ≠ j := by rintro rfl; rw [X.no] at hlj; cases hlj
        have hjl := (List.getElem?_eq_some_iff.1 hp).1
        obtain ⟨q, hq⟩ := W.lenr hp
        have hdep : dep (masksGo ops []) i j = true := by
          rcases (regOk_dst W.ok X.ho hp hji hd).2 hτ with h1 | h1
          · exact h1
          · exact absurd h1 (X.nod j hjl hlj)
        rw [putsT_self (r := q) 0 ops rs t0 j hp hq (by rw [Nat.zero_add]; exact hlj) hd hsz fun k p' hp' hk _ => (regOk_dst W.ok hp' hp hk hd).1]
        exact bel_mono (ord.2.2.2 j q (dep_lt hil hdep) hq) _ (hu j q hq hlj).v
      · rw [putsT_stay 0 ops rs t0 fun j p hp hj hd => hex ⟨j, p, hp, by rwa [Nat.zero_add] at hj, hd⟩, Array.getElem?_eq_getElem hsz]
        exact bel_mono ord.1 _ (T0 _ (Array.getElem_mem hsz))
    · rw [Array.getElem?_eq_none (by rw [putsT_size]; exact Nat.le_of_not_lt hsz)]; exact bel_undef _
  | const v => exact eval_bel (t := #[]) R0' (fun v hv => by simp at hv) hok
  | global k => exact eval_bel (t := #[]) R0' (fun v hv => by simp at hv) hok
  | func f => exact eval_bel (t := #[]) R0' (fun v hv => by simp at hv) hok
end
end
end Go.Den
