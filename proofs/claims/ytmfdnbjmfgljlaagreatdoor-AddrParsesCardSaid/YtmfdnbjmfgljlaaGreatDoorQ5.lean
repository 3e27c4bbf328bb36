/-
  Own texts, merged: AdB AdC AnA AnB AdD AdE AdF AdG AnC BkW AnD AnE AnF AnG AnH AnI AnJ AnK AnL AnM AnN
-/
import Derived.Shelf.Strings.SlTrimAscii
import Derived.Lib.SlTrimSet
import Derived.Shelf.Strings.CaseAny
import Derived.Laws.RangeAny
import Derived.Lib.Bytealg
import Derived.Test.YtmfdnbjmfgljlaaGreatDoorQ4


/-
  Plain facts of texts of addresses: groups of hexadecimal digits. No program is named here.
-/

namespace Go.Proofs.YtmfdnbjmfgljlaaGreatDoor

open Go.Lib

def isHx (c : UInt8) : Bool := (decide (48 ≤ c.toNat) && decide (c.toNat ≤ 57)) || (decide (97 ≤ c.toNat) && decide (c.toNat ≤ 102)) || (decide (65 ≤ c.toNat) && decide (c.toNat ≤ 70))
def hxv (c : UInt8) : Nat := if 97 ≤ c.toNat then c.toNat - 87 else if 65 ≤ c.toNat then c.toNat - 55 else c.toNat - 48
theorem isHx_iff (c : UInt8) : isHx c = true ↔ (48 ≤ c.toNat ∧ c.toNat ≤ 57) ∨ (97 ≤ c.toNat ∧ c.toNat ≤ 102) ∨ (65 ≤ c.toNat ∧ c.toNat ≤ 70) := by
  unfold isHx; simp only [Bool.or_eq_true, Bool.and_eq_true, decide_eq_true_eq]; omega
theorem hxv_lt {c : UInt8} (h : isHx c = true) : hxv c < 16 := by
  rw [isHx_iff] at h; unfold hxv; split
  · omega
  · split <;> omega
def hexW : List UInt8 → Nat → Nat
  | [], n => n
  | c :: r, n => hexW r (16 * n + hxv c)
theorem hexW_app : ∀ (a b : List UInt8) (n : Nat), hexW (a ++ b) n = hexW b (hexW a n)
  | [], _, _ => rfl
  | c :: r, b, n => by rw [List.cons_append, hexW, hexW, hexW_app r b]
def hexOk (l : List UInt8) : Bool := decide (1 ≤ l.length) && decide (l.length ≤ 4) && l.all isHx
def hexG (l : List UInt8) : Option Nat := if hexOk l = true then some (hexW l 0) else none
theorem hexOk_iff (l : List UInt8) : hexOk l = true ↔ 1 ≤ l.length ∧ l.length ≤ 4 ∧ l.all isHx = true := by
  unfold hexOk; simp only [Bool.and_eq_true, decide_eq_true_eq]; exact and_assoc
theorem hexW_lt : ∀ (l : List UInt8) (n : Nat), l.all isHx = true → hexW l n < (n + 1) * 16 ^ l.length
  | [], n, _ => by simp [hexW]
  | c :: r, n, h => by
    rw [List.all_cons, Bool.and_eq_true] at h
    have h1 := hxv_lt h.1
    have h2 := hexW_lt r (16 * n + hxv c) h.2
    rw [hexW, List.length_cons, Nat.pow_succ]
    refine Nat.lt_of_lt_of_le h2 ?_
    rw [Nat.mul_comm (16 ^ r.length) 16, ← Nat.mul_assoc]
    exact Nat.mul_le_mul_right _ (by omega)
theorem hexG_lt {l : List UInt8} {n : Nat} (h : hexG l = some n) : n < 65536 := by
  unfold hexG at h
  split at h
  · rename_i k
    cases h
    obtain ⟨_, b, c⟩ := (hexOk_iff l).1 k
    have h1 := hexW_lt l 0 c
    have h2 : 16 ^ l.length ≤ 16 ^ 4 := Nat.pow_le_pow_right (by omega) b
    omega
  · cases h
theorem hexG_len {l : List UInt8} {n : Nat} (h : hexG l = some n) : 1 ≤ l.length ∧ l.length ≤ 4 := by
  unfold hexG at h
  split at h
  · rename_i k; exact ⟨((hexOk_iff l).1 k).1, ((hexOk_iff l).1 k).2.1⟩
  · cases h
theorem hexG_all {l : List UInt8} {n : Nat} (h : hexG l = some n) : l.all isHx = true := by
  unfold hexG at h
  split at h
  · rename_i k; exact ((hexOk_iff l).1 k).2.2
  · cases h
/-- The two bytes of a group. -/
def two (n : Nat) : List UInt8 := [UInt8.ofNat (n / 256), UInt8.ofNat (n % 256)]
/-- A digit in small letters. -/
def lowC (c : UInt8) : UInt8 := if 65 ≤ c.toNat ∧ c.toNat ≤ 90 then UInt8.ofNat (c.toNat + 32) else c
theorem lowC_hex (c : UInt8) : isHex (lowC c) = isHx c ∧ (isHx c = true → hexv (lowC c) = hxv c) := by
  have hc := c.toNat_lt
  by_cases h : 65 ≤ c.toNat ∧ c.toNat ≤ 90
  · have e : (lowC c).toNat = c.toNat + 32 := by unfold lowC; rw [if_pos h]; simp; omega
    refine ⟨?_, fun k => ?_⟩
    · unfold isHex isHx; rw [e]
      have : (decide (48 ≤ c.toNat + 32) && decide (c.toNat + 32 ≤ 57)) = false := by simp; omega
      have h2 : (decide (48 ≤ c.toNat) && decide (c.toNat ≤ 57)) = false := by simp; omega
      have h3 : (decide (97 ≤ c.toNat) && decide (c.toNat ≤ 102)) = false := by simp; omega
      rw [this, h2, h3, Bool.false_or, Bool.false_or, Bool.false_or]
      have h4 : decide (97 ≤ c.toNat + 32) = true := by simp; omega
      have h5 : decide (65 ≤ c.toNat) = true := by simp; omega
      have h6 : decide (c.toNat + 32 ≤ 102) = decide (c.toNat ≤ 70) := by simp
      rw [h4, h5, h6]
    · rw [isHx_iff] at k; unfold hexv hxv; rw [e, if_pos (by omega), if_neg (by omega), if_pos (by omega)]; omega
  · have e : lowC c = c := by unfold lowC; rw [if_neg h]
    rw [e]
    refine ⟨?_, fun k => ?_⟩
    · unfold isHex isHx
      have h3 : (decide (65 ≤ c.toNat) && decide (c.toNat ≤ 70)) = false := by simp; omega
      rw [h3, Bool.or_false]
    · rw [isHx_iff] at k; unfold hexv hxv; split
      · rfl
      · rw [if_neg (by omega)]
theorem hexv48 : hexv 48 = 0 := rfl
theorem pad_unhex {g : List UInt8} (h1 : 1 ≤ g.length) (h4 : g.length ≤ 4) : unhexL (List.replicate (4 - g.length) 48 ++ g.map lowC) = (hexG g).map two := by
  have hl : (List.replicate (4 - g.length) (48 : UInt8) ++ g.map lowC).length = 4 := by rw [List.length_append, List.length_replicate, List.length_map]; omega
  have ha : (List.replicate (4 - g.length) (48 : UInt8) ++ g.map lowC).all isHex = g.all isHx := by
    rw [List.all_append, List.all_map]
    have : (List.replicate (4 - g.length) (48 : UInt8)).all isHex = true := by
      rw [List.all_eq_true]; intro x hx; rw [List.mem_replicate] at hx; rw [hx.2]; rfl
    rw [this, Bool.true_and]
    congr 1
    funext c; exact (lowC_hex c).1
  unfold unhexL hexG
  by_cases hh : g.all isHx = true
  · rw [if_pos ⟨by rw [hl], by rw [ha]; exact hh⟩, if_pos ((hexOk_iff g).2 ⟨h1, h4, hh⟩)]
    show some _ = some _
    congr 1
    have hv : ∀ c ∈ g, hexv (lowC c) = hxv c := fun c hc => (lowC_hex c).2 (List.all_eq_true.1 hh c hc)
    have hlt : ∀ c ∈ g, hxv c < 16 := fun c hc => hxv_lt (List.all_eq_true.1 hh c hc)
    match g, h1, h4, hv, hlt with
    | [a], _, _, hv, hlt =>
      have := hlt a (by simp)
      have e1 : hxv a / 256 = 0 := by omega
      have e2 : hxv a % 256 = hxv a := by omega
      simp [pairs, hexW, two, hexv48, hv a (by simp), e1, e2]
    | [a, b], _, _, hv, hlt =>
      have := hlt a (by simp); have := hlt b (by simp)
      have e1 : (16 * hxv a + hxv b) / 256 = 0 := by omega
      have e2 : (16 * hxv a + hxv b) % 256 = 16 * hxv a + hxv b := by omega
      simp [pairs, hexW, two, hexv48, hv a (by simp), hv b (by simp), e1, e2]
    | [a, b, c], _, _, hv, hlt =>
      have := hlt a (by simp); have := hlt b (by simp); have := hlt c (by simp)
      have e1 : (16 * (16 * hxv a + hxv b) + hxv c) / 256 = hxv a := by omega
      have e2 : (16 * (16 * hxv a + hxv b) + hxv c) % 256 = 16 * hxv b + hxv c := by omega
      simp [pairs, hexW, two, hexv48, hv a (by simp), hv b (by simp), hv c (by simp), e1, e2]
    | [a, b, c, d], _, _, hv, hlt =>
      have := hlt a (by simp); have := hlt b (by simp); have := hlt c (by simp); have := hlt d (by simp)
      have e1 : (16 * (16 * (16 * hxv a + hxv b) + hxv c) + hxv d) / 256 = 16 * hxv a + hxv b := by omega
      have e2 : (16 * (16 * (16 * hxv a + hxv b) + hxv c) + hxv d) % 256 = 16 * hxv c + hxv d := by omega
      simp [pairs, hexW, two, hv a (by simp), hv b (by simp), hv c (by simp), hv d (by simp), e1, e2]
  · rw [if_neg (fun h => hh (by rw [← ha]; exact h.2)), if_neg (fun h => hh ((hexOk_iff g).1 h).2.2)]
    rfl
/-- A number's digits to a base. -/
def digB (base : Nat) : Nat → Nat → List UInt8
  | 0, n => [hexd (n % base)]
  | k + 1, n => if n < base then [hexd n] else digB base k (n / base) ++ [hexd (n % base)]
def grp (n : Nat) : List UInt8 := digB 16 3 n
theorem hxv_hexd {n : Nat} (h : n < 16) : hxv (hexd n) = n ∧ isHx (hexd n) = true := by
  have e := hexd_nat h
  rw [isHx_iff]
  unfold hxv
  rw [e]
  by_cases h9 : n < 10
  · rw [if_pos h9, if_neg (by omega), if_neg (by omega)]; omega
  · rw [if_neg h9, if_pos (by omega)]; omega
theorem digB_len (base : Nat) : ∀ (k n : Nat), 1 ≤ (digB base k n).length ∧ (digB base k n).length ≤ k + 1
  | 0, n => by simp [digB]
  | k + 1, n => by
    unfold digB
    have := digB_len base k (n / base)
    split
    · simp
    · rw [List.length_append, List.length_singleton]; omega
theorem digB_all : ∀ (k n : Nat), (digB 16 k n).all isHx = true
  | 0, n => by simp [digB, (hxv_hexd (Nat.mod_lt n (by omega : 0 < 16))).2]
  | k + 1, n => by
    unfold digB
    split
    · simp [(hxv_hexd (by assumption : n < 16)).2]
    · rw [List.all_append, digB_all k]; simp [(hxv_hexd (Nat.mod_lt n (by omega : 0 < 16))).2]
theorem digB_val : ∀ (k n : Nat), n < 16 ^ (k + 1) → hexW (digB 16 k n) 0 = n
  | 0, n, h => by
    have hn : n < 16 := by simpa using h
    show 16 * 0 + hxv (hexd (n % 16)) = n
    rw [Nat.mod_eq_of_lt hn, (hxv_hexd hn).1]; omega
  | k + 1, n, h => by
    unfold digB
    split
    · rename_i hn
      show 16 * 0 + hxv (hexd n) = n
      rw [(hxv_hexd hn).1]; omega
    · rw [hexW_app, digB_val k (n / 16) (by rw [Nat.pow_succ] at h; omega)]
      show 16 * (n / 16) + hxv (hexd (n % 16)) = n
      rw [(hxv_hexd (Nat.mod_lt n (by omega))).1]; omega
theorem grp_back {n : Nat} (h : n < 65536) : hexG (grp n) = some n := by
  unfold hexG grp
  rw [if_pos ((hexOk_iff _).2 ⟨(digB_len 16 3 n).1, (digB_len 16 3 n).2, digB_all 3 n⟩), digB_val 3 n (by omega)]
theorem grp_hx (n : Nat) : ∀ c ∈ grp n, isHx c = true := List.all_eq_true.1 (digB_all 3 n)
theorem grp_len (n : Nat) : 1 ≤ (grp n).length ∧ (grp n).length ≤ 4 := digB_len 16 3 n
theorem isHx_no {c : UInt8} (h : isHx c = true) : c ≠ 58 ∧ c ≠ 46 := by
  rw [isHx_iff] at h
  constructor <;> (intro e; subst e; revert h; decide)
/-- What the program makes of two bytes: four digits, without the noughts ahead. -/
def hx2 (a b : UInt8) : List UInt8 := ((hexL [a, b]).take 3).dropWhile (· == 48) ++ (hexL [a, b]).drop 3
theorem hexd_zero {n : Nat} (h : n < 16) : (hexd n == 48) = decide (n = 0) := by
  by_cases h0 : n = 0
  · subst h0; rfl
  · rw [decide_eq_false h0, beq_eq_false_iff_ne]
    intro e
    have := hexv_hexd h
    rw [e, hexv48] at this; omega
theorem hx2_grp (a b : UInt8) : hx2 a b = grp (256 * a.toNat + b.toNat) := by
  have ha := a.toNat_lt; have hb := b.toNat_lt
  have z1 := hexd_zero (n := a.toNat / 16) (by omega)
  have z2 := hexd_zero (n := a.toNat % 16) (by omega)
  have z3 := hexd_zero (n := b.toNat / 16) (by omega)
  have hl : hx2 a b = [hexd (a.toNat / 16), hexd (a.toNat % 16), hexd (b.toNat / 16)].dropWhile (· == 48) ++ [hexd (b.toNat % 16)] := rfl
  rw [hl]
  unfold grp digB digB digB digB
  generalize hn : 256 * a.toNat + b.toNat = n
  have e0 : n % 16 = b.toNat % 16 := by omega
  have e1 : n / 16 % 16 = b.toNat / 16 := by omega
  have e2 : n / 16 / 16 % 16 = a.toNat % 16 := by omega
  have e3 : n / 16 / 16 / 16 % 16 = a.toNat / 16 := by omega
  by_cases h1 : a.toNat / 16 = 0
  · rw [decide_eq_true h1] at z1
    by_cases h2 : a.toNat % 16 = 0
    · rw [decide_eq_true h2] at z2
      by_cases h3 : b.toNat / 16 = 0
      · rw [decide_eq_true h3] at z3
        rw [if_pos (by omega), show n = b.toNat % 16 by omega]
        simp [List.dropWhile, z1, z2, z3]
      · rw [decide_eq_false h3] at z3
        rw [if_neg (by omega), if_pos (by omega), e0, show n / 16 = b.toNat / 16 by omega]
        simp [List.dropWhile, z1, z2, z3]
    · rw [decide_eq_false h2] at z2
      rw [if_neg (by omega), if_neg (by omega), if_pos (by omega), e0, e1, show n / 16 / 16 = a.toNat % 16 by omega]
      simp [List.dropWhile, z1, z2]
  · rw [decide_eq_false h1] at z1
    rw [if_neg (by omega), if_neg (by omega), if_neg (by omega), e0, e1, e2, e3]
    simp [List.dropWhile, z1]
end Go.Proofs.YtmfdnbjmfgljlaaGreatDoor


/-
  The notations of addresses: as the program reads them, and as the document does, is the same. No program is named here.
-/

namespace Go.Proofs.YtmfdnbjmfgljlaaGreatDoor

open Go.Lib

/-- Four decimal numbers. -/
def decM : List (List UInt8) → Option (List UInt8)
  | [] => some []
  | g :: r => (numL 255 g).bind fun n => (decM r).map fun b => UInt8.ofNat n :: b
def fourL (l : List UInt8) : Option (List UInt8) := if (spl 46 l).length = 4 then decM (spl 46 l) else none
/-- Groups, two bytes each. -/
def hexM : List (List UInt8) → Option (List UInt8)
  | [] => some []
  | g :: r => (hexG g).bind fun n => (hexM r).map fun b => two n ++ b
def lastG (g : List UInt8) : Option (List UInt8) := match fourL g with
  | some b => some b
  | none => (hexG g).map two
/-- Groups; the last one may be of four decimal numbers. -/
def refM (last : Bool) : List (List UInt8) → Option (List UInt8)
  | [] => some []
  | [g] => if last then lastG g else (hexG g).map two
  | g :: h :: r => (hexG g).bind fun n => (refM last (h :: r)).map fun b => two n ++ b
def grpsA (l : List UInt8) : Option (List UInt8) := if l = [] then some [] else hexM (spl 58 l)
def grpsR (last : Bool) (l : List UInt8) : Option (List UInt8) := if l = [] then some [] else refM last (spl 58 l)
def four2 (b : List UInt8) : List UInt8 := match b with
  | [p, q, r, s] => grp (256 * p.toNat + q.toNat) ++ 58 :: grp (256 * r.toNat + s.toNat)
  | _ => []
def lastP (l : List UInt8) : List UInt8 × List UInt8 := (lastAt 58 l).getD ([], l)
def undotL (l : List UInt8) : List UInt8 := match fourL (lastP l).2 with
  | some b => (lastP l).1 ++ four2 b
  | none => l
/-- The two colons: what is ahead of them, and behind. -/
def cut2 : List UInt8 → Option (List UInt8 × List UInt8)
  | [] => none
  | b :: l => if b = 58 ∧ l.head? = some 58 then some ([], l.tail) else (cut2 l).map fun p => (b :: p.1, p.2)
def z16 (f b : List UInt8) : List UInt8 := f ++ (List.replicate (16 - f.length - b.length) 0 ++ b)
def putA (sh : Bool) (f b : List UInt8) : Option (List UInt8) := if sh = true then (if f.length + b.length ≤ 14 then some (z16 f b) else none) else (if f.length + b.length = 16 then some (z16 f b) else none)
def par6 (l : List UInt8) : Option (List UInt8) := match cut2 (undotL l) with
  | none => (grpsA (undotL l)).bind fun f => putA false f []
  | some (h, t) => (grpsA h).bind fun f => (grpsA t).bind fun b => putA true f b
def par4 (l : List UInt8) : Option (List UInt8) := (fourL l).map fun b => b ++ List.replicate 12 0
def parA (l : List UInt8) : Option (Bool × List UInt8) :=
  if l.length ≤ 45 then (if 58 ∈ l then (par6 l).map fun b => (true, b) else (par4 l).map fun b => (false, b)) else none
def parR (l : List UInt8) : Option (Bool × List UInt8) := match fourL l with
  | some b => some (false, b ++ List.replicate 12 0)
  | none => (match cut2 l with
    | none => (grpsR true l).bind fun f => putA false f []
    | some (h, t) => (grpsR false h).bind fun f => (grpsR true t).bind fun b => putA true f b).map fun b => (true, b)

theorem numL_dig {most n : Nat} {l : List UInt8} (h : numL most l = some n) : l.all isDig = true := by
  unfold numL at h
  split at h
  · rename_i k; exact ((numOk_iff l).1 k.1).2.2.2
  · cases h
theorem decM_mem : ∀ {r : List (List UInt8)} {b : List UInt8}, decM r = some b → b.length = r.length ∧ ∀ g ∈ r, ∃ n, numL 255 g = some n
  | [], b, h => by cases h; simp
  | g :: r, b, h => by
    unfold decM at h
    cases e : numL 255 g with
    | none => rw [e] at h; cases h
    | some n =>
      rw [e, Option.bind_some] at h
      cases e2 : decM r with
      | none => rw [e2] at h; cases h
      | some c =>
        rw [e2] at h
        cases h
        obtain ⟨h1, h2⟩ := decM_mem e2
        refine ⟨by simp [h1], fun x hx => ?_⟩
        rw [List.mem_cons] at hx
        rcases hx with rfl | hx
        · exact ⟨n, e⟩
        · exact h2 x hx
theorem fourL_len {l b : List UInt8} (h : fourL l = some b) : b.length = 4 := by
  unfold fourL at h
  split at h
  · rename_i k; rw [(decM_mem h).1, k]
  · cases h
theorem spl_sum (c : UInt8) : ∀ (k : Nat) (l : List UInt8), l.length ≤ k → l.length + 1 = ((spl c l).map fun x => x.length + 1).sum
  | 0, l, hk => by
    obtain rfl : l = [] := List.length_eq_zero_iff.1 (by omega)
    rfl
  | k + 1, l, hk => by
    rcases spl_first c l with ⟨h, e⟩ | ⟨a, r, h1, h2, e⟩
    · rw [e]; simp
    · have hr : r.length ≤ k := by rw [h1, List.length_append, List.length_cons] at hk; omega
      rw [e, List.map_cons, List.sum_cons, ← spl_sum c k r hr, h1, List.length_append, List.length_cons]; omega
theorem num255_len {g : List UInt8} {n : Nat} (h : numL 255 g = some n) : g.length ≤ 3 := by
  obtain ⟨a, b⟩ := num_dec h
  rw [← a, Lib.decDigits_length]
  exact nDigits_le 2 n (by omega)
theorem sum_le {k : Nat} : ∀ (r : List (List UInt8)), (∀ g ∈ r, g.length ≤ k) → (r.map fun x => x.length + 1).sum ≤ (k + 1) * r.length
  | [], _ => by simp
  | g :: r, h => by
    have h1 := h g (by simp)
    have h2 := sum_le r (fun x hx => h x (by simp [hx]))
    rw [List.map_cons, List.sum_cons, List.length_cons, Nat.mul_succ]; omega
theorem fourL_short {l b : List UInt8} (h : fourL l = some b) : l.length ≤ 15 ∧ ∀ c ∈ l, c = 46 ∨ isDig c = true := by
  unfold fourL at h
  split at h
  · rename_i k
    obtain ⟨_, hm⟩ := decM_mem h
    refine ⟨?_, fun c hc => ?_⟩
    · have h1 := spl_sum 46 _ l (Nat.le_refl _)
      have h2 := sum_le (k := 3) (spl 46 l) (fun g hg => by obtain ⟨n, hn⟩ := hm g hg; exact num255_len hn)
      rw [k] at h2; omega
    · have h1 := jn_spl 46 _ l (Nat.le_refl _)
      rw [← h1] at hc
      have : ∀ (r : List (List UInt8)), (∀ g ∈ r, g.all isDig = true) → ∀ c ∈ jn 46 r, c = 46 ∨ isDig c = true := by
        intro r
        induction r with
        | nil => intro _ c hc; simp [jn] at hc
        | cons x r ih =>
          intro hr c hc
          cases r with
          | nil => exact .inr (List.all_eq_true.1 (hr x (by simp)) c hc)
          | cons y r =>
            rw [jn_cons x (by simp), List.mem_append, List.mem_cons] at hc
            rcases hc with hc | hc | hc
            · exact .inr (List.all_eq_true.1 (hr x (by simp)) c hc)
            · exact .inl hc
            · exact ih (fun g hg => hr g (by simp [hg])) c hc
      exact this _ (fun g hg => by obtain ⟨n, hn⟩ := hm g hg; exact numL_dig hn) c hc
  · cases h
theorem fourL_colon {l : List UInt8} (h : (58 : UInt8) ∈ l) : fourL l = none := by
  cases e : fourL l with
  | none => rfl
  | some b =>
    have := (fourL_short e).2 58 h
    rcases this with h | h
    · cases h
    · cases h
theorem spl_app (c : UInt8) : ∀ (a b : List UInt8), spl c (a ++ c :: b) = spl c a ++ spl c b
  | [], b => by show spl c (c :: b) = [[]] ++ _; rw [spl, if_pos rfl]; rfl
  | x :: a, b => by
    show spl c (x :: (a ++ c :: b)) = _
    have ih := spl_app c a b
    by_cases hx : x = c
    · rw [spl, if_pos hx, spl, if_pos hx, ih]; rfl
    · rw [spl, if_neg hx, spl, if_neg hx, ih]
      cases e : spl c a with
      | nil => exact absurd e (spl_ne c a)
      | cons y r => rfl
theorem hexM_app : ∀ (a b : List (List UInt8)), hexM (a ++ b) = (hexM a).bind fun x => (hexM b).map fun y => x ++ y
  | [], b => by simp [hexM]
  | g :: a, b => by
    rw [List.cons_append, hexM, hexM, hexM_app a b]
    cases hexG g with
    | none => rfl
    | some n =>
      cases hexM a with
      | none => rfl
      | some x =>
        cases hexM b with
        | none => rfl
        | some y => simp
theorem refM_snoc (last : Bool) : ∀ (a : List (List UInt8)) (g : List UInt8), refM last (a ++ [g]) = (hexM a).bind fun x => (if last then lastG g else (hexG g).map two).map fun y => x ++ y
  | [], g => by simp [refM, hexM]
  | [h], g => by
    simp only [List.cons_append, List.nil_append, refM, hexM]
    cases hexG h with
    | none => rfl
    | some n => simp
  | h :: k :: a, g => by
    have ih := refM_snoc last (k :: a) g
    simp only [List.cons_append] at ih ⊢
    rw [refM, ih]
    show _ = ((hexG h).bind fun n => (hexM (k :: a)).map fun b => two n ++ b).bind _
    cases hexG h with
    | none => rfl
    | some n =>
      simp only [Option.bind_some]
      cases hexM (k :: a) with
      | none => rfl
      | some x =>
        cases (if last = true then lastG g else (hexG g).map two) with
        | none => rfl
        | some y => simp
theorem refM_false : ∀ (a : List (List UInt8)), refM false a = hexM a
  | [] => rfl
  | [g] => by
    simp only [refM, hexM]
    cases hexG g with
    | none => rfl
    | some n => simp
  | g :: h :: r => by rw [refM, refM_false (h :: r), ← hexM]
theorem two_four {b : List UInt8} (h : b.length = 4) : ∃ x y, four2 b = x ++ 58 :: y ∧ (58 : UInt8) ∉ x ∧ (58 : UInt8) ∉ y ∧ x ≠ [] ∧ y ≠ [] ∧ hexM [x, y] = some b := by
  match b, h with
  | [p, q, r, s], _ =>
    have hp := p.toNat_lt; have hq := q.toNat_lt; have hr := r.toNat_lt; have hs := s.toNat_lt
    have no : ∀ n, (58 : UInt8) ∉ grp n := fun n hm => (isHx_no (grp_hx n 58 hm)).1 rfl
    have ne : ∀ n, grp n ≠ [] := fun n hm => by have := (grp_len n).1; rw [hm] at this; simp at this
    refine ⟨grp (256 * p.toNat + q.toNat), grp (256 * r.toNat + s.toNat), rfl, no _, no _, ne _, ne _, ?_⟩
    have e1 : (256 * p.toNat + q.toNat) / 256 = p.toNat := by omega
    have e2 : (256 * p.toNat + q.toNat) % 256 = q.toNat := by omega
    have e3 : (256 * r.toNat + s.toNat) / 256 = r.toNat := by omega
    have e4 : (256 * r.toNat + s.toNat) % 256 = s.toNat := by omega
    simp only [hexM, grp_back (n := 256 * p.toNat + q.toNat) (by omega), grp_back (n := 256 * r.toNat + s.toNat) (by omega), Option.bind_some, Option.map_some, two, e1, e2, e3, e4, u8_ofNat]
    rfl
/-- Cut in two. -/
theorem cut2_some : ∀ {l h t : List UInt8}, cut2 l = some (h, t) → l = h ++ 58 :: 58 :: t ∧ ∀ y, cut2 (l ++ y) = some (h, t ++ y)
  | [], h, t, e => by cases e
  | b :: l, h, t, e => by
    unfold cut2 at e
    split at e
    · rename_i k
      cases e
      obtain ⟨rfl, k2⟩ := k
      cases l with
      | nil => cases k2
      | cons c l =>
        have : c = 58 := by simpa using k2
        subst this
        exact ⟨rfl, fun y => by show cut2 (58 :: 58 :: (l ++ y)) = _; unfold cut2; simp⟩
    · rename_i k
      cases e2 : cut2 l with
      | none => rw [e2] at e; cases e
      | some p =>
        obtain ⟨h2, t2⟩ := p
        rw [e2] at e
        cases e
        obtain ⟨h3, h4⟩ := cut2_some e2
        refine ⟨by rw [h3]; rfl, fun y => ?_⟩
        show cut2 (b :: (l ++ y)) = _
        have hl : l ≠ [] := by rw [h3]; simp
        have hh : (l ++ y).head? = l.head? := by
          cases l with
          | nil => exact absurd rfl hl
          | cons _ _ => rfl
        unfold cut2
        rw [hh, if_neg k, h4]; rfl
theorem cut2_app : ∀ {a b : List UInt8}, cut2 a = none → b.head? ≠ some 58 → cut2 (a ++ b) = (cut2 b).map fun p => (a ++ p.1, p.2)
  | [], b, _, _ => by
    show cut2 b = (cut2 b).map fun p => (p.1, p.2)
    cases cut2 b with
    | none => rfl
    | some p => rfl
  | x :: a, b, h, hb => by
    unfold cut2 at h
    split at h
    · cases h
    · rename_i k
      have h2 : cut2 a = none := by
        cases e : cut2 a with
        | none => rfl
        | some p => rw [e] at h; cases h
      have ih := cut2_app h2 hb
      show cut2 (x :: (a ++ b)) = _
      have hk : ¬ (x = 58 ∧ (a ++ b).head? = some 58) := fun ⟨k1, k2⟩ => by
        cases a with
        | nil => exact hb k2
        | cons y a => exact k ⟨k1, k2⟩
      rw [cut2, if_neg hk, ih]
      cases cut2 b with
      | none => rfl
      | some p => rfl
theorem cut2_no : ∀ {a : List UInt8}, (58 : UInt8) ∉ a → cut2 a = none
  | [], _ => rfl
  | x :: a, h => by
    rw [List.mem_cons, not_or] at h
    rw [cut2, if_neg (fun k => h.1 k.1.symm), cut2_no h.2]; rfl
theorem head_no {a : List UInt8} (h : (58 : UInt8) ∉ a) : a.head? ≠ some 58 := by
  cases a with
  | nil => simp
  | cons x a =>
    rw [List.mem_cons, not_or] at h
    intro e; exact h.1 (Option.some.inj e).symm
theorem cut2_pair {x y : List UInt8} (hx : (58 : UInt8) ∉ x) (hy : (58 : UInt8) ∉ y) : cut2 (x ++ 58 :: y) = none := by
  have h1 : cut2 (x ++ [58]) = none := by
    induction x with
    | nil => rfl
    | cons a x ih =>
      rw [List.mem_cons, not_or] at hx
      show cut2 (a :: (x ++ [58])) = none
      rw [cut2, if_neg (fun k => hx.1 k.1.symm), ih hx.2]; rfl
  have := cut2_app h1 (head_no hy)
  rw [List.append_assoc] at this
  rw [show x ++ 58 :: y = x ++ ([58] ++ y) from rfl, this, cut2_no hy]; rfl
theorem head_pair {x y : List UInt8} (hx : (58 : UInt8) ∉ x) (hn : x ≠ []) : (x ++ 58 :: y).head? ≠ some 58 := by
  cases x with
  | nil => exact absurd rfl hn
  | cons a x =>
    rw [List.mem_cons, not_or] at hx
    intro e; exact hx.1 (Option.some.inj e).symm
/-- A tail that ends in one of four numbers, or in two groups in its place. -/
theorem grps_tail {t y x z b : List UInt8} (ht : t = [] ∨ ∃ p, t = p ++ [58]) (hy : (58 : UInt8) ∉ y) (hb : fourL y = some b) (hx : (58 : UInt8) ∉ x) (hz : (58 : UInt8) ∉ z) (hm : hexM [x, z] = some b) :
    grpsA (t ++ (x ++ 58 :: z)) = grpsR true (t ++ y) := by
  have hyn : y ≠ [] := fun e => by subst e; cases hb
  have hs : spl 58 (x ++ 58 :: z) = [x, z] := by rw [spl_app, spl_no 58 x hx, spl_no 58 z hz]; rfl
  unfold grpsA grpsR
  rw [if_neg (by simp), if_neg (by simp [hyn])]
  rcases ht with rfl | ⟨p, rfl⟩
  · rw [List.nil_append, List.nil_append, hs, spl_no 58 y hy, hm]
    show _ = if true then lastG y else _
    rw [if_pos rfl]; unfold lastG; rw [hb]
  · rw [List.append_assoc, List.append_assoc]
    show hexM (spl 58 (p ++ 58 :: (x ++ 58 :: z))) = refM true (spl 58 (p ++ 58 :: y))
    rw [spl_app, hs, spl_app, spl_no 58 y hy, hexM_app, refM_snoc, hm, if_pos rfl]
    unfold lastG; rw [hb]
theorem grps_same {t y : List UInt8} (ht : t = [] ∨ ∃ p, t = p ++ [58]) (hy : (58 : UInt8) ∉ y) (hb : fourL y = none) : grpsA (t ++ y) = grpsR true (t ++ y) := by
  unfold grpsA grpsR
  by_cases hn : t ++ y = []
  · rw [if_pos hn, if_pos hn]
  rw [if_neg hn, if_neg hn]
  have hl : (if true = true then lastG y else (hexG y).map two) = (hexG y).map two := by rw [if_pos rfl]; unfold lastG; rw [hb]
  have h1 : hexM [y] = (hexG y).map two := by
    simp only [hexM]
    cases hexG y with
    | none => rfl
    | some n => simp
  rcases ht with rfl | ⟨p, rfl⟩
  · rw [List.nil_append, spl_no 58 y hy, h1]; exact hl.symm
  · rw [List.append_assoc]
    show hexM (spl 58 (p ++ 58 :: y)) = refM true (spl 58 (p ++ 58 :: y))
    rw [spl_app, spl_no 58 y hy, hexM_app, refM_snoc, hl, h1]
theorem ends_tail {p h t : List UInt8} (e : p ++ [58] = h ++ 58 :: 58 :: t) : t = [] ∨ ∃ q, t = q ++ [58] := by
  by_cases ht : t = []
  · exact .inl ht
  · refine .inr ⟨t.dropLast, ?_⟩
    have h1 : (p ++ [58]).getLast? = some 58 := by simp
    rw [e] at h1
    have h2 : (h ++ 58 :: 58 :: t).getLast? = t.getLast? := by
      rw [show h ++ 58 :: 58 :: t = (h ++ [58, 58]) ++ t by simp, List.getLast?_append]
      cases e3 : t.getLast? with
      | none => rw [List.getLast?_eq_none_iff] at e3; exact absurd e3 ht
      | some v => rfl
    rw [h2] at h1
    have h3 := List.dropLast_concat_getLast ht
    rw [List.getLast?_eq_some_getLast ht] at h1
    rw [← h3]
    simp only [List.dropLast_concat, Option.some.inj h1]
/-- Where there is a colon. -/
theorem par6_same {l : List UInt8} (hc : (58 : UInt8) ∈ l) : (par6 l).map (fun b => (true, b)) = parR l := by
  unfold parR
  rw [fourL_colon hc]
  show _ = Option.map _ _
  congr 1
  cases hl : lastAt 58 l with
  | none => exact absurd hc (lastAt_none.1 hl)
  | some q =>
    obtain ⟨x, y⟩ := q
    obtain ⟨p, rfl, rfl, hy⟩ := lastAt_some.1 hl
    have hu : undotL (p ++ [58] ++ y) = match fourL y with
      | some b => p ++ [58] ++ four2 b
      | none => p ++ [58] ++ y := by unfold undotL lastP; rw [hl]; rfl
    unfold par6
    rw [hu]
    cases hf : fourL y with
    | none =>
      dsimp only
      cases hk : cut2 (p ++ [58] ++ y) with
      | none => dsimp only; rw [grps_same (.inr ⟨p, rfl⟩) hy hf]
      | some q =>
        obtain ⟨h, t⟩ := q
        dsimp only
        have hA : ∀ h, grpsA h = grpsR false h := fun h => by unfold grpsA grpsR; rw [refM_false]
        have ht : ∃ t0, t = t0 ++ y ∧ (t0 = [] ∨ ∃ p, t0 = p ++ [58]) := by
          cases hk2 : cut2 (p ++ [58]) with
          | none =>
            have := cut2_app hk2 (head_no hy)
            rw [this, cut2_no hy] at hk; cases hk
          | some q2 =>
            obtain ⟨h2, t2⟩ := q2
            obtain ⟨e1, e2⟩ := cut2_some hk2
            rw [e2 y] at hk
            cases hk
            exact ⟨t2, rfl, ends_tail e1⟩
        obtain ⟨t0, rfl, ht0⟩ := ht
        rw [hA h, grps_same ht0 hy hf]
    | some b =>
      dsimp only
      obtain ⟨x, z, e, hx, hz, nx, nz, hm⟩ := two_four (fourL_len hf)
      rw [e]
      cases hk2 : cut2 (p ++ [58]) with
      | none =>
        rw [cut2_app hk2 (head_pair hx nx), cut2_pair hx hz, cut2_app hk2 (head_no hy), cut2_no hy]
        show Option.bind (grpsA _) _ = Option.bind (grpsR true _) _
        rw [grps_tail (.inr ⟨p, rfl⟩) hy hf hx hz hm]
      | some q2 =>
        obtain ⟨h2, t2⟩ := q2
        obtain ⟨e1, e2⟩ := cut2_some hk2
        rw [e2, e2]
        show Option.bind (grpsA h2) _ = Option.bind (grpsR false h2) _
        have hA : grpsA h2 = grpsR false h2 := by unfold grpsA grpsR; rw [refM_false]
        rw [hA, grps_tail (ends_tail e1) hy hf hx hz hm]
theorem len_two (n : Nat) : (two n).length = 2 := rfl
theorem hexM_sum : ∀ {r : List (List UInt8)} {b : List UInt8}, hexM r = some b → b.length = 2 * r.length ∧ (r.map fun x => x.length + 1).sum ≤ 5 * r.length
  | [], b, h => by cases h; simp
  | g :: r, b, h => by
    unfold hexM at h
    cases e : hexG g with
    | none => rw [e] at h; cases h
    | some n =>
      rw [e, Option.bind_some] at h
      cases e2 : hexM r with
      | none => rw [e2] at h; cases h
      | some c =>
        rw [e2] at h
        cases h
        obtain ⟨h1, h2⟩ := hexM_sum e2
        have := hexG_len e
        rw [List.length_append, len_two, h1, List.map_cons, List.sum_cons, List.length_cons]; omega
theorem refM_sum {last : Bool} {r : List (List UInt8)} {b : List UInt8} (hr : r ≠ []) (h : refM last r = some b) : 2 * (r.map fun x => x.length + 1).sum ≤ 5 * b.length + (if last then 12 else 0) := by
  obtain ⟨a, g, rfl⟩ : ∃ a g, r = a ++ [g] := ⟨r.dropLast, r.getLast hr, (List.dropLast_concat_getLast hr).symm⟩
  rw [refM_snoc] at h
  cases e : hexM a with
  | none => rw [e] at h; cases h
  | some x =>
    rw [e, Option.bind_some] at h
    obtain ⟨h1, h2⟩ := hexM_sum e
    rw [List.map_append, List.sum_append]
    have key : ∀ y, (hexG g).map two = some y → y.length = 2 ∧ g.length ≤ 4 := fun y hy => by
      cases e2 : hexG g with
      | none => rw [e2] at hy; cases hy
      | some n => rw [e2] at hy; cases hy; exact ⟨rfl, (hexG_len e2).2⟩
    simp only [List.map_cons, List.map_nil, List.sum_cons, List.sum_nil]
    cases last with
    | false =>
      rw [if_neg (by simp)] at h ⊢
      cases e2 : (hexG g).map two with
      | none => rw [e2] at h; cases h
      | some y =>
        rw [e2] at h
        cases h
        have := key y e2
        rw [List.length_append]; omega
    | true =>
      rw [if_pos rfl] at h ⊢
      unfold lastG at h
      cases e3 : fourL g with
      | some c =>
        rw [e3] at h
        cases h
        have h3 := fourL_len e3
        have h4 := (fourL_short e3).1
        rw [List.length_append]; omega
      | none =>
        rw [e3] at h
        dsimp only at h
        cases e2 : (hexG g).map two with
        | none => rw [e2] at h; cases h
        | some y =>
          rw [e2] at h
          cases h
          have := key y e2
          rw [List.length_append]; omega
theorem grpsR_len {last : Bool} {l b : List UInt8} (h : grpsR last l = some b) : l = [] ∨ 2 * (l.length + 1) ≤ 5 * b.length + (if last then 12 else 0) := by
  unfold grpsR at h
  split at h
  · exact .inl (by assumption)
  · refine .inr ?_
    rw [spl_sum 58 _ l (Nat.le_refl _)]
    exact refM_sum (spl_ne 58 l) h
theorem putA_some {sh : Bool} {f b c : List UInt8} (h : putA sh f b = some c) : (sh = true → f.length + b.length ≤ 14) ∧ (sh = false → f.length + b.length = 16) ∧ c = z16 f b := by
  unfold putA at h
  cases sh
  · rw [if_neg (by simp : ¬ (false = true))] at h
    by_cases k : f.length + b.length = 16
    · rw [if_pos k] at h
      exact ⟨(fun h => by cases h), (fun _ => k), (Option.some.inj h).symm⟩
    · rw [if_neg k] at h; cases h
  · rw [if_pos rfl] at h
    by_cases k : f.length + b.length ≤ 14
    · rw [if_pos k] at h
      exact ⟨(fun _ => k), (fun h => by cases h), (Option.some.inj h).symm⟩
    · rw [if_neg k] at h; cases h
/-- A notation has at most 45 bytes. -/
theorem parR_len {l : List UInt8} {r : Bool × List UInt8} (h : parR l = some r) : l.length ≤ 45 := by
  unfold parR at h
  cases e : fourL l with
  | some b => have := (fourL_short e).1; omega
  | none =>
    rw [e] at h
    dsimp only at h
    cases e2 : cut2 l with
    | none =>
      rw [e2] at h
      dsimp only at h
      cases e3 : grpsR true l with
      | none => rw [e3] at h; cases h
      | some f =>
        rw [e3, Option.bind_some] at h
        cases e4 : putA false f [] with
        | none => rw [e4] at h; cases h
        | some c =>
          have h1 := (putA_some e4).2.1 rfl
          have h2 := grpsR_len e3
          rw [if_pos rfl] at h2
          simp only [List.length_nil] at h1
          rcases h2 with rfl | h2
          · simp
          · omega
    | some q =>
      obtain ⟨a, t⟩ := q
      rw [e2] at h
      dsimp only at h
      cases e3 : grpsR false a with
      | none => rw [e3] at h; cases h
      | some f =>
        rw [e3, Option.bind_some] at h
        cases e5 : grpsR true t with
        | none => rw [e5] at h; cases h
        | some b =>
          rw [e5, Option.bind_some] at h
          cases e4 : putA true f b with
          | none => rw [e4] at h; cases h
          | some c =>
            have h1 := (putA_some e4).1 rfl
            have h2 := grpsR_len e3
            have h3 := grpsR_len e5
            rw [if_neg (by simp)] at h2
            rw [if_pos rfl] at h3
            have h4 := (cut2_some e2).1
            have h5 : l.length = a.length + (t.length + 2) := by rw [h4]; simp
            rcases h2 with rfl | h2 <;> rcases h3 with rfl | h3 <;> (try simp only [List.length_nil] at h5) <;> omega
/-- The program and the document read a text alike. -/
theorem par_same (l : List UInt8) : parA l = parR l := by
  unfold parA
  by_cases hl : l.length ≤ 45
  · rw [if_pos hl]
    by_cases hc : (58 : UInt8) ∈ l
    · rw [if_pos hc]; exact par6_same hc
    · rw [if_neg hc]
      unfold parR par4
      cases e : fourL l with
      | some b => rfl
      | none =>
        dsimp only
        rw [cut2_no hc]
        dsimp only
        unfold grpsR
        by_cases hn : l = []
        · rw [if_pos hn]; rfl
        · rw [if_neg hn, spl_no 58 l hc]
          show none = Option.map _ (Option.bind (if true then lastG l else _) _)
          rw [if_pos rfl]
          unfold lastG
          rw [e]
          dsimp only
          cases hexG l with
          | none => rfl
          | some n =>
            show none = Option.map _ (putA false (two n) [])
            have : putA false (two n) [] = none := by unfold putA; rw [if_neg (by simp : ¬ (false = true))]; exact if_neg (by simp [len_two])
            rw [this]; rfl
  · rw [if_neg hl]
    cases e : parR l with
    | none => rfl
    | some r => exact absurd (parR_len e) hl
end Go.Proofs.YtmfdnbjmfgljlaaGreatDoor


/-
  Contracts as oracles: what the layer addr calls of package strings.
-/




namespace Go.Proofs.YtmfdnbjmfgljlaaGreatDoor

open Go.Den Go.RowKit
noncomputable section
set_option maxRecDepth 100000

set_option linter.unusedSectionVars false

variable [Inhabited Root]

/-- What the tables hold when the call begins. -/
structure Ra : Prop where
  tab : Tab rootW
  max : MaxIs rootW
  cas : Lib.CaseVar 1 Lib.caseA rootW
  utf : Lib.Utf8Tabs 2 3 rootW
theorem cell_held {w : World} (hw : Held w) {a : Addr} {v : Value} (h : rootW.cell? a = some v) : w.cell? a = some v :=
  (World.cell?_of_block (hw _ (World.block_lt_of_cell? _ _ h))).trans h
theorem cas_held {g : Nat} {T : Array Lib.CaseRow} {w : World} (hw : Held w) (h : Lib.CaseVar g T rootW) : Lib.CaseVar g T w := by
  obtain ⟨R, oR, cap, h1, h2⟩ := h
  have k : ∀ {a : Addr} {v : Value}, rootW.cell? a = some v → w.cell? a = some v := fun hc => cell_held hw hc
  exact ⟨R, oR, cap, k h1, fun i hi => ⟨k (h2 i hi).1, k (h2 i hi).2.1, k (h2 i hi).2.2.1, k (h2 i hi).2.2.2.1, k (h2 i hi).2.2.2.2⟩⟩
theorem utf_held {a b : Nat} {w : World} (hw : Held w) (h : Lib.Utf8Tabs a b rootW) : Lib.Utf8Tabs a b w := by
  unfold Lib.Utf8Tabs at *
  exact ⟨fun c hc => cell_held hw (h.1 c hc), fun i hi => ⟨cell_held hw (h.2 i hi).1, cell_held hw (h.2 i hi).2⟩⟩
theorem zero_row {P : Program} {t : TypeId} {v : Value} {n : Nat} (h : (P.info? t).map (fun i => (i.zero, i.size)) = some (some v, n)) : ∀ w, (zeroValue t).run P w = .ok v w := by
  cases hq : P.info? t with
  | none => simp [hq] at h
  | some i =>
    simp [hq] at h
    exact fun w => by simp [zeroValue, typeInfo, hq, h.1]
theorem asciiZ : (Tryz.prog.info? (Tryz.lays160_ren.t 116)).map (fun i => (i.zero, i.size)) = some (some (.agg (Array.replicate 256 (.bool false))), 256) := by kernel_rfl
def mkB (l : List UInt8) : ByteArray := ⟨l.toArray⟩
def hasB (s : ByteArray) (c : UInt8) : Bool := decide (0 ≤ Lib.indexByte s.data.toList c)
def lastI (s : ByteArray) (c : Int) : Int := Lib.lastIndexByte s c
def trimP (s p : ByteArray) : ByteArray := mkB (Lib.trimPrefix s.data.toList p.data.toList)
def trimS (s p : ByteArray) : ByteArray := mkB (Lib.trimS s.data.toList p.data.toList)
def trimL (s : ByteArray) (c : UInt8) : ByteArray := mkB (Lib.trimLeftB s.data.toList c)
def lowS (s : ByteArray) : ByteArray := mkB (Lib.toLowerD s.data.toList)
def upS (s : ByteArray) : ByteArray := mkB (Lib.toUpperD s.data.toList)
def cutA (s p : ByteArray) : ByteArray := mkB (Lib.cut s.data.toList p.data.toList).1
def cutB (s p : ByteArray) : ByteArray := mkB (Lib.cut s.data.toList p.data.toList).2.1
def cutK (s p : ByteArray) : Bool := (Lib.cut s.data.toList p.data.toList).2.2
def hasBS : Array Value → Option (Bool × Value)
  | ⟨[.string s, .string ⟨⟨[c]⟩⟩]⟩ => some (true, .bool (hasB s c))
  | _ => none
def lastIS : Array Value → Option (Bool × Value)
  | ⟨[.string s, .int .u8 c]⟩ => some (decide (s.size ≤ 1048576), .int .i64 (lastI s c))
  | _ => none
def trimPS : Array Value → Option (Bool × Value)
  | ⟨[.string s, .string p]⟩ => some (true, .string (trimP s p))
  | _ => none
def trimSS : Array Value → Option (Bool × Value)
  | ⟨[.string s, .string p]⟩ => some (decide (s.size ≤ 1048576) && (decide (p.size ≤ 1048576) && p.data.toList.all fun b => decide (b.toNat < 128)), .string (trimS s p))
  | _ => none
def trimLS : Array Value → Option (Bool × Value)
  | ⟨[.string s, .string ⟨⟨[c]⟩⟩]⟩ => some (decide (c.toNat < 128), .string (trimL s c))
  | _ => none
def lowSS : Array Value → Option (Bool × Value)
  | ⟨[.string s]⟩ => some (decide (s.size ≤ 1048576), .string (lowS s))
  | _ => none
def upSS : Array Value → Option (Bool × Value)
  | ⟨[.string s]⟩ => some (decide (s.size ≤ 1048576), .string (upS s))
  | _ => none
def cutSS : Array Value → Option (Bool × Value)
  | ⟨[.string s, .string p]⟩ => some (decide (s.size ≤ 1048576), .tuple #[.string (cutA s p), .string (cutB s p), .bool (cutK s p)])
  | _ => none
def pcHas : PC Tryz.prog where
  f := 27
  spec := hasBS
  body := by kernel_rfl
  ok := fun args r hr hok => by
    unfold hasBS at hr
    split at hr
    · cases hr
      refine ⟨all_bel rfl, rfl, fun w => (Tryz.strings_Contains_one _ _ w).mono ?_⟩
      rintro e w' ⟨rfl, rfl⟩
      exact ⟨rfl, Below.refl _ _⟩
    · cases hr
def pcLast : PC Tryz.prog where
  f := 32
  spec := lastIS
  body := by kernel_rfl
  ok := fun args r hr hok => by
    unfold lastIS at hr
    split at hr
    · cases hr
      rw [decide_eq_true_eq] at hok
      refine ⟨all_bel rfl, rfl, fun w => (Tryz.strings_LastIndexByte _ _ (by omega) w).mono ?_⟩
      rintro e w' ⟨rfl, rfl⟩
      exact ⟨rfl, Below.refl _ _⟩
    · cases hr
def pcTrimP : PC Tryz.prog where
  f := 34
  spec := trimPS
  body := by kernel_rfl
  ok := fun args r hr hok => by
    unfold trimPS at hr
    split at hr
    · cases hr
      refine ⟨all_bel rfl, rfl, fun w => (Tryz.strings_TrimPrefix _ _ w).mono ?_⟩
      rintro e w' ⟨rfl, rfl⟩
      exact ⟨rfl, Below.refl _ _⟩
    · cases hr
def pcTrimS : PC Tryz.prog where
  f := 35
  spec := trimSS
  body := by kernel_rfl
  ok := fun args r hr hok => by
    unfold trimSS at hr
    split at hr
    · rename_i s p
      cases hr
      simp only [Bool.and_eq_true, decide_eq_true_eq] at hok
      exact ⟨all_bel rfl, rfl, fun w => Any.strings_Trim_ascii Tryz.lays160 (zero_row asciiZ) (by kernel_rfl) s p w (by omega) (by omega) (fun j b hb => by
        have := List.all_eq_true.1 hok.2.2 b (List.mem_of_getElem? hb)
        simpa using this)⟩
    · cases hr
def pcTrimL : PC Tryz.prog where
  f := 71
  spec := trimLS
  body := by kernel_rfl
  ok := fun args r hr hok => by
    unfold trimLS at hr
    split at hr
    · cases hr
      rw [decide_eq_true_eq] at hok
      refine ⟨all_bel rfl, rfl, fun w => (Tryz.strings_TrimLeft_one _ _ hok w).mono ?_⟩
      rintro e w' ⟨rfl, rfl⟩
      exact ⟨rfl, Below.refl _ _⟩
    · cases hr
def pkLow (hR : Ra) : PK Tryz.prog where
  f := 79
  spec := lowSS
  body := by kernel_rfl
  ok := fun args r hr hok => by
    unfold lowSS at hr
    split at hr
    · cases hr
      rw [decide_eq_true_eq] at hok
      exact ⟨all_bel rfl, rfl, fun w hw => Tryz.strings_ToLower_any _ w (by omega) (cas_held hw hR.cas) (utf_held hw hR.utf)⟩
    · cases hr
def pkUp (hR : Ra) : PK Tryz.prog where
  f := 19
  spec := upSS
  body := by kernel_rfl
  ok := fun args r hr hok => by
    unfold upSS at hr
    split at hr
    · cases hr
      rw [decide_eq_true_eq] at hok
      exact ⟨all_bel rfl, rfl, fun w hw => Tryz.strings_ToUpper_any _ w (by omega) (cas_held hw hR.cas) (utf_held hw hR.utf)⟩
    · cases hr
theorem below_drawn (w : World) (n : Nat) : Below w.heap.size w (w.drewN n) := ⟨rfl, rfl, rfl, Nat.le_refl _, fun _ _ => rfl⟩
def pkCut (hR : Ra) : PK Tryz.prog where
  f := 50
  spec := cutSS
  body := by kernel_rfl
  ok := fun args r hr hok => by
    unfold cutSS at hr
    split at hr
    · cases hr
      rw [decide_eq_true_eq] at hok
      refine ⟨all_bel rfl, rfl, fun w hw => ?_⟩
      obtain ⟨m, hm⟩ := hR.max.held hw
      refine (Tryz.strings_Cut _ _ m w (by omega) hm).mono ?_
      rintro e w' ⟨rfl, n, rfl⟩
      exact ⟨rfl, below_drawn w n⟩
    · cases hr
end

end Go.Proofs.YtmfdnbjmfgljlaaGreatDoor


/-
  Contracts as oracles: strings.Split at one byte; addresses as values.
-/

namespace Go.Proofs.YtmfdnbjmfgljlaaGreatDoor

open Go.Den Go.RowKit
noncomputable section
set_option maxRecDepth 100000

set_option linter.unusedSectionVars false

theorem mkB_data (s : ByteArray) : mkB s.data.toList = s := by unfold mkB; rfl
theorem data_mkB (l : List UInt8) : (mkB l).data.toList = l := rfl
theorem size_mkB (l : List UInt8) : (mkB l).size = l.length := by rw [← size_data]; rfl
theorem mkB_inj {a b : List UInt8} (h : mkB a = mkB b) : a = b := by
  have := congrArg (fun s : ByteArray => s.data.toList) h
  exact this
theorem mkB_app (a b : List UInt8) : mkB a ++ mkB b = mkB (a ++ b) := by
  unfold mkB; rw [ByteArray.mk_append_mk]
theorem ext_list5 (s : ByteArray) (a b : Nat) : (s.extract a b).data.toList = (s.data.toList.take b).drop a := by
  rw [ByteArray.data_extract, Array.toList_extract]
  simp [List.extract, List.drop_take]
theorem ext_mk (s : ByteArray) (a b : Nat) : s.extract a b = mkB ((s.data.toList.take b).drop a) := by
  rw [← ext_list5, mkB_data]
/-- The pieces between bytes c. -/
def pcs (s : ByteArray) (c : UInt8) : List ByteArray := (spl c s.data.toList).map mkB
theorem split_eq (c : UInt8) : ∀ (k : Nat) (s : ByteArray), Lib.countB s ⟨#[c]⟩ = k → Lib.splitB ⟨#[c]⟩ 0 k s = pcs s c := by
  intro k
  induction k with
  | zero =>
    intro s h
    rcases Lib.indexB_cases s ⟨#[c]⟩ with h2 | ⟨i, h2, hi⟩
    · rw [Lib.splitB_miss _ _ _ _ h2]
      have h3 : Lib.indexByte s.data.toList c = -1 := by rw [← Lib.index_one]; exact h2
      have hn : c ∉ s.data.toList := fun hm => by
        obtain ⟨k, hk⟩ := List.getElem?_of_mem hm
        exact Lib.indexByte_none h3 k hk
      unfold pcs; rw [spl_no c _ hn, List.map_cons, mkB_data]; rfl
    · have := Lib.countB_hit s ⟨#[c]⟩ i (Nat.le_refl 1) h2
      omega
  | succ k ih =>
    intro s h
    rcases Lib.indexB_cases s ⟨#[c]⟩ with h2 | ⟨i, h2, hi⟩
    · have := Lib.countB_miss s ⟨#[c]⟩ h2
      omega
    · have hc := Lib.countB_hit s ⟨#[c]⟩ i (Nat.le_refl 1) h2
      rw [Lib.splitB_hit _ _ _ _ i h2, ih _ (by omega)]
      have h3 : Lib.indexByte s.data.toList c = i := by rw [← Lib.index_one]; exact h2
      obtain ⟨hg, hno⟩ := Lib.indexByte_some h3
      have hlt : i < s.data.toList.length := (List.getElem?_eq_some_iff.1 hg).1
      have he : s.data.toList[i] = c := (List.getElem?_eq_some_iff.1 hg).2
      have hsz : s.data.toList.length = s.size := size_data s
      have hl : s.data.toList = s.data.toList.take i ++ c :: s.data.toList.drop (i + 1) := by
        rw [← he, List.getElem_cons_drop hlt, List.take_append_drop]
      have hn : c ∉ s.data.toList.take i := fun hm => by
        obtain ⟨k, hk⟩ := List.getElem?_of_mem hm
        rw [List.getElem?_take] at hk
        split at hk
        · exact hno k (by assumption) hk
        · cases hk
      have e1 : (ByteArray.mk #[c]).size = 1 := rfl
      unfold pcs
      conv => rhs; rw [hl, spl_cons c _ _ hn]
      rw [List.map_cons, ext_mk, Nat.add_zero, List.drop_zero, e1, ext_list5, List.take_of_length_le (i := s.size) (by omega)]
theorem pcs_len (s : ByteArray) (c : UInt8) : (pcs s c).length = Lib.countB s ⟨#[c]⟩ + 1 := by
  rw [← split_eq c _ s rfl]; exact Lib.splitB_all ⟨#[c]⟩ (Nat.le_refl 1) 0 _ s rfl
theorem pcs_le (s : ByteArray) (c : UInt8) : (pcs s c).length ≤ s.size + 1 := by
  rw [pcs_len]
  have := Lib.countB_le ⟨#[c]⟩ (Nat.le_refl 1) s.size s (Nat.le_refl _)
  omega
theorem split_any (c : UInt8) (s : ByteArray) (hs : s.size ≤ 1048576) (m : Int) (w : World) (hm : w.cell? ⟨0, 0, none⟩ = some (.int .i64 m)) :
    Calls Tryz.prog 48 #[.string s, .string ⟨⟨[c]⟩⟩] w fun e w' => e = .returned (.slice (some ⟨w.heap.size, 0, none⟩) (pcs s c).length (pcs s c).length) ∧ w' = w.alloc (.cells (strs (pcs s c)) 9) := by
  refine (Tryz.strings_Split s ⟨#[c]⟩ m w (by omega) hm (Nat.le_refl 1)).mono ?_
  rintro e w' ⟨rfl, rfl⟩
  rw [pcs_len, split_eq c _ s rfl]
  exact ⟨rfl, rfl⟩
variable [Inhabited Root] [Inhabited Names]

def nth (l : List ByteArray) (i : Nat) : ByteArray := l.getD i ByteArray.empty
def strs4 (l : List ByteArray) : Array Value := ⟨[.string (nth l 0), .string (nth l 1), .string (nth l 2), .string (nth l 3)]⟩
theorem strs4_eq {l : List ByteArray} (h : l.length = 4) : strs4 l = strs l := by
  match l, h with
  | [_, _, _, _], _ => rfl
def pmSplit (hM : MaxIs rootW) : PM Tryz.prog where
  f := 48
  orc := fun _ args h nx => match args with
    | ⟨[.string s, .string ⟨⟨[c]⟩⟩]⟩ => some (.br (decide (s.size ≤ 1048576)) (.br (decide ((pcs s c).length = 4)) (.leaf ⟨.slice (some ⟨nx, 0, none⟩) 4 4, h.set nx ⟨strs4 (pcs s c), 9, none⟩, nx + 1⟩)
        (.leaf ⟨.slice (some ⟨nx, 0, none⟩) (pcs s c).length (pcs s c).length, h.set nx ⟨strs (pcs s c), 9, none⟩, nx + 1⟩)) .fail)
    | _ => none
  body := by kernel_rfl
  ok := fun g args h nx t r ho hr => by
    split at ho
    · rename_i s c
      cases ho
      obtain ⟨hs, hr⟩ := Tree.run_guard hr
      rw [decide_eq_true_eq] at hs
      have hle := pcs_le s c
      have key : SatCall Tryz.prog g 48 ⟨[.string s, .string ⟨⟨[c]⟩⟩]⟩ h nx ⟨.slice (some ⟨nx, 0, none⟩) (pcs s c).length (pcs s c).length, h.set nx ⟨strs (pcs s c), 9, none⟩, nx + 1⟩ := by
        refine satCall_fresh (by omega) (fun hb => ?_) (fun hb => ⟨strs_bel _ _, fun k hk => by cases hk⟩) fun ρ w R _ => ?_
        · simp only [bel, Bool.and_eq_true, blt_iff]
          unfold B0 at hb; omega
        · obtain ⟨m, hm⟩ := hM.held R.held
          have e1 : (⟨[.string s, .string ⟨⟨[c]⟩⟩]⟩ : Array Value).map (ren ρ) = #[.string s, .string ⟨⟨[c]⟩⟩] := by simp [ren]
          rw [e1]; refine (split_any c s hs m w hm).mono ?_
          rintro e w' ⟨rfl, rfl⟩
          have hbase := R.base
          have hlow : upd ρ nx w.heap.size (pcs s c).length = (pcs s c).length := by
            unfold B0 at hbase
            rw [upd_other (by omega)]
            exact R.low _ (by unfold B0; omega)
          refine ⟨upd ρ nx w.heap.size, upd_agree _ _ _, ?_, (Below.refl _ w).alloc (Nat.le_refl _) _, by rw [upd_same]; exact Nat.le_refl _, ?_⟩
          · simp only [ren, upd_same, hlow]
          · rw [upd_same]
            refine ⟨#[], ?_, rfl⟩
            rw [strs_ren, Array.append_empty]
            exact heap_alloc_new w _
      rcases Tree.run_br hr with ⟨h4, hr⟩ | ⟨h4, hr⟩
      · cases hr
        rw [decide_eq_true_eq] at h4
        rw [strs4_eq h4]
        rw [h4] at key
        exact key
      · cases hr
        exact key
    · cases ho
/-- An address as a value. -/
def bt (l : List UInt8) (i : Nat) : Int := ((l.getD i 0).toNat : Int)
def adr (v : Bool) (l : List UInt8) : Value := .agg ⟨[.bool v, .int .u8 (bt l 0), .int .u8 (bt l 1), .int .u8 (bt l 2), .int .u8 (bt l 3), .int .u8 (bt l 4), .int .u8 (bt l 5), .int .u8 (bt l 6), .int .u8 (bt l 7), .int .u8 (bt l 8), .int .u8 (bt l 9), .int .u8 (bt l 10), .int .u8 (bt l 11), .int .u8 (bt l 12), .int .u8 (bt l 13), .int .u8 (bt l 14), .int .u8 (bt l 15)]⟩
def arr (l : List UInt8) : Value := .agg ⟨[.int .u8 (bt l 0), .int .u8 (bt l 1), .int .u8 (bt l 2), .int .u8 (bt l 3), .int .u8 (bt l 4), .int .u8 (bt l 5), .int .u8 (bt l 6), .int .u8 (bt l 7), .int .u8 (bt l 8), .int .u8 (bt l 9), .int .u8 (bt l 10), .int .u8 (bt l 11), .int .u8 (bt l 12), .int .u8 (bt l 13), .int .u8 (bt l 14), .int .u8 (bt l 15)]⟩
def ends (v : Bool) (l : List UInt8) (p : Int) : Value := .agg ⟨[.bool v, .int .u8 (bt l 0), .int .u8 (bt l 1), .int .u8 (bt l 2), .int .u8 (bt l 3), .int .u8 (bt l 4), .int .u8 (bt l 5), .int .u8 (bt l 6), .int .u8 (bt l 7), .int .u8 (bt l 8), .int .u8 (bt l 9), .int .u8 (bt l 10), .int .u8 (bt l 11), .int .u8 (bt l 12), .int .u8 (bt l 13), .int .u8 (bt l 14), .int .u8 (bt l 15), .int .u16 p]⟩
theorem bt_bd (l : List UInt8) (i : Nat) : 0 ≤ bt l i ∧ bt l i ≤ 255 := by
  unfold bt; have := (l.getD i 0).toNat_lt; omega
theorem byteOf_bt (l : List UInt8) (i : Nat) : byteOf (.int .u8 (bt l i)) = l.getD i 0 := by
  show UInt8.ofNat (bt l i).toNat = _
  unfold bt; simp
theorem list16 {l : List UInt8} (h : l.length = 16) : [l.getD 0 0, l.getD 1 0, l.getD 2 0, l.getD 3 0, l.getD 4 0, l.getD 5 0, l.getD 6 0, l.getD 7 0, l.getD 8 0, l.getD 9 0, l.getD 10 0, l.getD 11 0, l.getD 12 0, l.getD 13 0, l.getD 14 0, l.getD 15 0] = l := by
  match l, h with
  | [_, _, _, _, _, _, _, _, _, _, _, _, _, _, _, _], _ => rfl
/-- The bytes of a value. -/
def inB (r : List Value) : List UInt8 := bytesIn r
theorem inB_16 {l : List UInt8} (h : l.length = 16) : bytesIn [.int .u8 (bt l 0), .int .u8 (bt l 1), .int .u8 (bt l 2), .int .u8 (bt l 3), .int .u8 (bt l 4), .int .u8 (bt l 5), .int .u8 (bt l 6), .int .u8 (bt l 7), .int .u8 (bt l 8), .int .u8 (bt l 9), .int .u8 (bt l 10), .int .u8 (bt l 11), .int .u8 (bt l 12), .int .u8 (bt l 13), .int .u8 (bt l 14), .int .u8 (bt l 15)] = l := by
  conv => rhs; rw [← list16 h]
  simp only [bytesIn, List.map_cons, List.map_nil, byteOf_bt]
theorem isB8_bt (l : List UInt8) (i : Nat) : isB8 (.int .u8 (bt l i)) = true := by
  have := bt_bd l i
  show (decide (0 ≤ bt l i) && decide (bt l i ≤ 255)) = true
  rw [Bool.and_eq_true, decide_eq_true_eq, decide_eq_true_eq]; exact this
/-- Sixteen bytes that came in are those of their list. -/
theorem of_bytes {r : List Value} (h : allV isB8 r = true) (hl : r.length = 16) : ∃ l : List UInt8, l.length = 16 ∧ bytesIn r = l ∧ Value.agg ⟨r⟩ = arr l ∧ ∀ v, Value.agg ⟨.bool v :: r⟩ = adr v l := by
  have e := bytesIn_eq h
  refine ⟨bytesIn r, by unfold bytesIn; rw [List.length_map]; exact hl, rfl, ?_, fun v => ?_⟩
  all_goals
    generalize bytesIn r = l at e
    subst e
    rw [List.length_map] at hl
    match l, hl with
    | [_, _, _, _, _, _, _, _, _, _, _, _, _, _, _, _], _ => rfl
end

end Go.Proofs.YtmfdnbjmfgljlaaGreatDoor


/-
  The texts of addresses: as the program prints them, and as the document does, is the same; what is printed is read as it was. No program is named here.
-/

namespace Go.Proofs.YtmfdnbjmfgljlaaGreatDoor

open Go.Lib

set_option maxRecDepth 100000

/-- How many groups of nought stand from here on. -/
def rl : List Bool → Nat
  | true :: r => rl r + 1
  | _ => 0
def gapGo (zs : List Bool) : Nat → Nat → Nat × Nat → Nat × Nat
  | 0, _, p => p
  | k + 1, i, p => gapGo zs k (i + 1) (if p.2 - p.1 < rl (zs.drop i) then (i, i + rl (zs.drop i)) else p)
def gapS (zs : List Bool) : Nat × Nat := gapGo zs 8 0 (0, 0)
def refGo (zs : List Bool) : Nat → Nat → Nat × Nat → Nat × Nat
  | 0, _, p => p
  | k + 1, i, p => refGo zs k (i + 1) (if p.2 < rl (zs.drop i) then (i, rl (zs.drop i)) else p)
def refS (zs : List Bool) : Nat × Nat := refGo zs 8 0 (0, 1)
def gapChk (zs : List Bool) : Bool :=
  let p := gapS zs; let q := refS zs
  decide (p.1 ≤ p.2) && decide (p.2 ≤ 8) && (decide (p.2 - p.1 < 2) == decide (q.2 ≤ 1)) && (decide (p.2 - p.1 < 2) || (decide (q.1 = p.1) && decide (q.2 = p.2 - p.1) && (zs == zs.take p.1 ++ (List.replicate (p.2 - p.1) true ++ zs.drop p.2)))) && decide (q.1 ≤ 8) && decide (q.2 ≤ 8)
theorem gap_chk8 : ∀ a b c d e f g h : Bool, gapChk [a, b, c, d, e, f, g, h] = true := by decide
theorem gap_chk {zs : List Bool} (hz : zs.length = 8) : gapChk zs = true := by
  match zs, hz with
  | [a, b, c, d, e, f, g, h], _ => exact gap_chk8 a b c d e f g h
theorem gap_facts {zs : List Bool} (hz : zs.length = 8) : (gapS zs).1 ≤ (gapS zs).2 ∧ (gapS zs).2 ≤ 8 ∧ ((gapS zs).2 - (gapS zs).1 < 2 ↔ (refS zs).2 ≤ 1) ∧
    (2 ≤ (gapS zs).2 - (gapS zs).1 → (refS zs).1 = (gapS zs).1 ∧ (refS zs).2 = (gapS zs).2 - (gapS zs).1 ∧ zs = zs.take (gapS zs).1 ++ (List.replicate ((gapS zs).2 - (gapS zs).1) true ++ zs.drop (gapS zs).2)) ∧ (refS zs).1 ≤ 8 ∧ (refS zs).2 ≤ 8 := by
  have h := gap_chk hz
  unfold gapChk at h
  simp only [Bool.and_eq_true, Bool.or_eq_true, decide_eq_true_eq, beq_iff_eq] at h
  obtain ⟨⟨⟨⟨⟨h1, h2⟩, h3⟩, h4⟩, h5⟩, h6⟩ := h
  refine ⟨h1, h2, ?_, fun h => ?_, h5, h6⟩
  · rw [decide_eq_decide] at h3; exact h3
  · rcases h4 with h4 | h4
    · omega
    · exact ⟨h4.1.1, h4.1.2, h4.2⟩
/-- The groups of bytes. -/
def gl : List UInt8 → List Nat
  | a :: b :: r => (256 * a.toNat + b.toNat) :: gl r
  | _ => []
def byt : List Nat → List UInt8
  | [] => []
  | n :: r => two n ++ byt r
theorem gl_byt : ∀ (k : Nat) (l : List UInt8), l.length = 2 * k → byt (gl l) = l ∧ (gl l).length = k ∧ ∀ n ∈ gl l, n < 65536
  | 0, l, h => by
    obtain rfl : l = [] := List.length_eq_zero_iff.1 (by omega)
    exact ⟨rfl, rfl, by simp [gl]⟩
  | k + 1, a :: b :: r, h => by
    have ha := a.toNat_lt; have hb := b.toNat_lt
    obtain ⟨h1, h2, h3⟩ := gl_byt k r (by simp only [List.length_cons] at h; omega)
    have e1 : (256 * a.toNat + b.toNat) / 256 = a.toNat := by omega
    have e2 : (256 * a.toNat + b.toNat) % 256 = b.toNat := by omega
    refine ⟨?_, by rw [gl, List.length_cons, h2], fun n hn => ?_⟩
    · rw [gl, byt, h1, two, e1, e2, u8_ofNat, u8_ofNat]; rfl
    · rw [gl, List.mem_cons] at hn
      rcases hn with rfl | hn
      · omega
      · exact h3 n hn
  | k + 1, [a], h => by simp at h; omega
  | k + 1, [], h => by simp at h
theorem byt_len : ∀ g, (byt g).length = 2 * g.length
  | [] => rfl
  | n :: r => by rw [byt, List.length_append, byt_len r, len_two, List.length_cons]; omega
theorem byt_app : ∀ a b, byt (a ++ b) = byt a ++ byt b
  | [], _ => rfl
  | n :: a, b => by rw [List.cons_append, byt, byt_app a b, byt, List.append_assoc]
theorem byt_zero : ∀ k, byt (List.replicate k 0) = List.replicate (2 * k) 0
  | 0 => rfl
  | k + 1 => by
    rw [List.replicate_succ, byt, byt_zero k, show 2 * (k + 1) = 2 * k + 1 + 1 by omega, List.replicate_succ, List.replicate_succ]; rfl
def zsOf (g : List Nat) : List Bool := g.map fun n => decide (n = 0)
def prG (g : List Nat) : List UInt8 :=
  if (gapS (zsOf g)).2 - (gapS (zsOf g)).1 < 2 then jn 58 (g.map grp) else jn 58 ((g.map grp).take (gapS (zsOf g)).1) ++ (58 :: 58 :: jn 58 ((g.map grp).drop (gapS (zsOf g)).2))
/-- The text of an IPv6 address. -/
def p6L (l : List UInt8) : List UInt8 := prG (gl l)
/-- The text of an IPv4 address. -/
def p4L (l : List UInt8) : List UInt8 := jn 46 ((l.take 4).map fun b => Lib.decDigits b.toNat)
/-- The document's loop. -/
def preC (q : Nat × Nat) (i : Nat) (s : List UInt8) : List UInt8 := if 1 < q.2 ∧ i = q.1 then s ++ [58, 58] else s
def sepC (s : List UInt8) : List UInt8 := if 0 < s.length ∧ s.getLast? ≠ some 58 then s ++ [58] else s
def stepR (q : Nat × Nat) (g : List (List UInt8)) (i : Nat) (s : List UInt8) : List UInt8 :=
  if 1 < q.2 ∧ q.1 ≤ i ∧ i < q.1 + q.2 then preC q i s else sepC (preC q i s) ++ g.getD i []
theorem preC_no {q : Nat × Nat} {i : Nat} {s : List UInt8} (h : ¬ (1 < q.2 ∧ i = q.1)) : preC q i s = s := if_neg h
theorem preC_yes {q : Nat × Nat} {i : Nat} {s : List UInt8} (h : 1 < q.2 ∧ i = q.1) : preC q i s = s ++ [58, 58] := if_pos h
def goR (q : Nat × Nat) (g : List (List UInt8)) : Nat → Nat → List UInt8 → List UInt8
  | 0, _, s => s
  | k + 1, i, s => goR q g k (i + 1) (stepR q g i s)
def NC (x : List UInt8) : Prop := x ≠ [] ∧ (58 : UInt8) ∉ x
theorem jn_snoc (c : UInt8) : ∀ (a : List (List UInt8)) (y : List UInt8), a ≠ [] → jn c (a ++ [y]) = jn c a ++ c :: y
  | [], _, h => absurd rfl h
  | [x], y, _ => rfl
  | x :: z :: r, y, _ => by
    show jn c (x :: (z :: r ++ [y])) = _
    rw [jn_cons x (by simp), jn_snoc c (z :: r) y (by simp), jn_cons x (r := z :: r) (by simp)]
    simp
theorem last_nc {x : List UInt8} (h : NC x) : x.getLast? ≠ some 58 := fun e => h.2 (List.mem_of_getLast? e)
theorem jn_last {a : List (List UInt8)} (hn : a ≠ []) (h : ∀ x ∈ a, NC x) : jn 58 a ≠ [] ∧ (jn 58 a).getLast? ≠ some 58 := by
  obtain ⟨b, y, rfl⟩ : ∃ b y, a = b ++ [y] := ⟨a.dropLast, a.getLast hn, (List.dropLast_concat_getLast hn).symm⟩
  have hy := h y (by simp)
  by_cases hb : b = []
  · subst hb; exact ⟨hy.1, last_nc hy⟩
  · rw [jn_snoc _ _ _ hb]
    refine ⟨by simp, ?_⟩
    rw [show jn 58 b ++ 58 :: y = (jn 58 b ++ [58]) ++ y by simp, List.getLast?_append]
    cases e : y.getLast? with
    | none => rw [List.getLast?_eq_none_iff] at e; exact absurd e hy.1
    | some v => exact fun e2 => last_nc hy (by rw [e]; exact e2)
/-- A further group behind joined ones. -/
theorem add_group {a : List (List UInt8)} {y : List UInt8} (h : ∀ x ∈ a, NC x) (p : List UInt8) (hp : p = [] ∨ p.getLast? = some 58) :
    sepC (p ++ jn 58 a) ++ y = p ++ jn 58 (a ++ [y]) := by
  unfold sepC
  by_cases ha : a = []
  · subst ha
    rw [if_neg]
    · simp [jn]
    · rintro ⟨h1, h2⟩
      simp only [jn, List.append_nil] at h1 h2
      rcases hp with rfl | hp
      · simp at h1
      · exact h2 hp
  · obtain ⟨h1, h2⟩ := jn_last ha h
    rw [if_pos, jn_snoc _ _ _ ha]
    · simp
    · refine ⟨?_, ?_⟩
      · rw [List.length_append]; have := List.length_pos_iff.2 h1; omega
      · rw [List.getLast?_append]
        cases e : (jn 58 a).getLast? with
        | none => rw [List.getLast?_eq_none_iff] at e; exact absurd e h1
        | some v => exact fun e2 => h2 (by rw [e]; exact e2)
theorem take_snoc {α : Type} {d : α} {g : List α} {i : Nat} (h : i < g.length) : g.take (i + 1) = g.take i ++ [g.getD i d] := by
  rw [List.take_succ_eq_append_getElem h]; simp [List.getD, h]
theorem goR_no {q : Nat × Nat} {g : List (List UInt8)} (hq : q.2 ≤ 1) (hg : ∀ x ∈ g, NC x) : ∀ (k i : Nat), i + k ≤ g.length → goR q g k i (jn 58 (g.take i)) = jn 58 (g.take (i + k))
  | 0, i, _ => rfl
  | k + 1, i, h => by
    have hs : stepR q g i (jn 58 (g.take i)) = jn 58 (g.take (i + 1)) := by
      unfold stepR
      rw [if_neg (by omega), preC_no (by omega), take_snoc (d := []) (by omega)]
      have := add_group (y := g.getD i []) (fun x hx => hg x (List.mem_of_mem_take hx)) [] (.inl rfl) (a := g.take i)
      simpa using this
    rw [goR, hs, goR_no hq hg k (i + 1) (by omega)]
    congr 2; omega
theorem goR_gap {q : Nat × Nat} {g : List (List UInt8)} (hq : 1 < q.2) (hl : q.1 + q.2 ≤ g.length) (hg : ∀ x ∈ g, NC x) : ∀ (k i : Nat) (s : List UInt8), i + k ≤ g.length →
    (i ≤ q.1 → s = jn 58 (g.take i)) → (q.1 < i → i ≤ q.1 + q.2 → s = jn 58 (g.take q.1) ++ [58, 58]) → (q.1 + q.2 < i → s = (jn 58 (g.take q.1) ++ [58, 58]) ++ jn 58 ((g.drop (q.1 + q.2)).take (i - (q.1 + q.2)))) →
    i + k = g.length → goR q g k i s = (jn 58 (g.take q.1) ++ [58, 58]) ++ jn 58 (g.drop (q.1 + q.2))
  | 0, i, s, _, h1, h2, h3, he => by
    rw [goR]
    by_cases hc : q.1 + q.2 < i
    · rw [h3 hc, List.take_of_length_le (l := g.drop (q.1 + q.2)) (by rw [List.length_drop]; omega)]
    · rw [h2 (by omega) (by omega), List.drop_eq_nil_of_le (by omega)]; simp [jn]
  | k + 1, i, s, hb, h1, h2, h3, he => by
    rw [goR]
    refine goR_gap hq hl hg k (i + 1) _ (by omega) (fun h => ?_) (fun ha hb => ?_) (fun h => ?_) (by omega)
    · unfold stepR
      rw [if_neg (by omega), preC_no (by omega), h1 (by omega), take_snoc (d := []) (by omega)]
      have := add_group (y := g.getD i []) (fun x hx => hg x (List.mem_of_mem_take hx)) [] (.inl rfl) (a := g.take i)
      simpa using this
    · unfold stepR
      by_cases hi : i = q.1
      · rw [if_pos ⟨hq, by omega, by omega⟩, preC_yes ⟨hq, hi⟩, h1 (by omega), hi]
      · rw [if_pos ⟨hq, by omega, by omega⟩, preC_no (by omega), h2 (by omega) (by omega)]
    · unfold stepR
      rw [if_neg (by omega), preC_no (by omega)]
      have hs : s = (jn 58 (g.take q.1) ++ [58, 58]) ++ jn 58 ((g.drop (q.1 + q.2)).take (i - (q.1 + q.2))) := by
        by_cases hc : q.1 + q.2 < i
        · exact h3 hc
        · have : i = q.1 + q.2 := by omega
          rw [h2 (by omega) (by omega), this]; simp [jn]
      rw [hs, show i + 1 - (q.1 + q.2) = i - (q.1 + q.2) + 1 by omega, take_snoc (d := []) (by rw [List.length_drop]; omega)]
      have hd : (g.drop (q.1 + q.2)).getD (i - (q.1 + q.2)) [] = g.getD i [] := by
        simp only [List.getD_eq_getElem?_getD, List.getElem?_drop]; congr 2; omega
      rw [hd]
      exact add_group (fun x hx => hg x (List.mem_of_mem_drop (List.mem_of_mem_take hx))) _ (.inr (by simp))
theorem grp_nc (n : Nat) : NC (grp n) := ⟨fun h => by have := (grp_len n).1; rw [h] at this; simp at this, fun hm => (isHx_no (grp_hx n 58 hm)).1 rfl⟩
/-- The document's text of an address is the program's. -/
theorem ref_pr {g : List Nat} (hg : g.length = 8) : goR (refS (zsOf g)) (g.map grp) 8 0 [] = prG g := by
  have hz : (zsOf g).length = 8 := by unfold zsOf; rw [List.length_map, hg]
  obtain ⟨h1, h2, h3, h4, _, _⟩ := gap_facts hz
  have hn : ∀ x ∈ g.map grp, NC x := fun x hx => by
    obtain ⟨n, _, rfl⟩ := List.mem_map.1 hx; exact grp_nc n
  have hl : (g.map grp).length = 8 := by rw [List.length_map, hg]
  unfold prG
  by_cases hc : (gapS (zsOf g)).2 - (gapS (zsOf g)).1 < 2
  · rw [if_pos hc]
    have := goR_no (h3.1 hc) hn 8 0 (by omega)
    rw [show 0 + 8 = (g.map grp).length by omega, List.take_length] at this
    exact this
  · rw [if_neg hc]
    obtain ⟨e1, e2, _⟩ := h4 (by omega)
    have hqt : (refS (zsOf g)).1 + (refS (zsOf g)).2 = (gapS (zsOf g)).2 := by omega
    have := goR_gap (q := refS (zsOf g)) (by omega) (by omega) hn 8 0 [] (by omega) (fun _ => rfl) (fun h => by omega) (fun h => by omega) (by omega)
    rw [this, hqt, e1]; simp
theorem hexM_grp : ∀ (g : List Nat), (∀ n ∈ g, n < 65536) → hexM (g.map grp) = some (byt g)
  | [], _ => rfl
  | n :: r, h => by
    rw [List.map_cons, hexM, grp_back (h n (by simp)), Option.bind_some, hexM_grp r (fun m hm => h m (by simp [hm]))]; rfl
theorem four_grp (n : Nat) : fourL (grp n) = none := by
  unfold fourL
  have : (46 : UInt8) ∉ grp n := fun hm => (isHx_no (grp_hx n 46 hm)).2 rfl
  rw [spl_no 46 _ this]; rfl
theorem refM_grp (last : Bool) : ∀ (g : List Nat), (∀ n ∈ g, n < 65536) → refM last (g.map grp) = some (byt g) := fun g h => by
  by_cases hn : g = []
  · subst hn; rfl
  · obtain ⟨b, y, rfl⟩ : ∃ b y, g = b ++ [y] := ⟨g.dropLast, g.getLast hn, (List.dropLast_concat_getLast hn).symm⟩
    rw [List.map_append, List.map_cons, List.map_nil, refM_snoc, hexM_grp b (fun m hm => h m (by simp [hm])), Option.bind_some]
    have hy : y < 65536 := h y (by simp)
    have h2 : (hexG (grp y)).map two = some (two y) := by rw [grp_back hy]; rfl
    have h3 : (if last = true then lastG (grp y) else (hexG (grp y)).map two) = some (two y) := by
      split
      · unfold lastG; rw [four_grp]; exact h2
      · exact h2
    rw [h3, byt_app]
    simp [byt]
theorem grpsR_grp (last : Bool) (g : List Nat) (h : ∀ n ∈ g, n < 65536) : grpsR last (jn 58 (g.map grp)) = some (byt g) := by
  unfold grpsR
  by_cases hn : g = []
  · subst hn; rfl
  · have hm : g.map grp ≠ [] := by simpa using hn
    have hc : ∀ x ∈ g.map grp, NC x := fun x hx => by obtain ⟨n, _, rfl⟩ := List.mem_map.1 hx; exact grp_nc n
    rw [if_neg (jn_last hm hc).1, spl_jn 58 _ hm (fun x hx => (hc x hx).2), refM_grp last g h]
theorem cut2_jn : ∀ (a : List (List UInt8)), (∀ x ∈ a, NC x) → cut2 (jn 58 a) = none
  | [], _ => rfl
  | [x], h => cut2_no (h x (by simp)).2
  | x :: y :: r, h => by
    have ih := cut2_jn (y :: r) (fun z hz => h z (by simp [hz]))
    rw [jn_cons _ (by simp)]
    have hx := h x (by simp)
    have h1 : cut2 (x ++ [58]) = none := by
      have := cut2_pair (x := x) (y := x) hx.2 hx.2
      cases e : cut2 (x ++ [58]) with
      | none => rfl
      | some q => rw [show x ++ 58 :: x = (x ++ [58]) ++ x by simp, (cut2_some (t := q.2) (h := q.1) e).2 x] at this; cases this
    have h2 : (jn 58 (y :: r)).head? ≠ some 58 := by
      have hy := h y (by simp)
      cases r with
      | nil => exact head_no hy.2
      | cons z r => rw [jn_cons _ (by simp)]; exact head_pair hy.2 hy.1
    rw [show x ++ 58 :: jn 58 (y :: r) = (x ++ [58]) ++ jn 58 (y :: r) by simp, cut2_app h1 h2, ih]; rfl
theorem cut2_at : ∀ {a b : List UInt8}, cut2 a = none → a.getLast? ≠ some 58 → cut2 (a ++ 58 :: 58 :: b) = some (a, b)
  | [], b, _, _ => by show cut2 (58 :: 58 :: b) = _; unfold cut2; simp
  | x :: a, b, h, hl => by
    unfold cut2 at h
    split at h
    · cases h
    · rename_i k
      have h2 : cut2 a = none := by
        cases e : cut2 a with
        | none => rfl
        | some p => rw [e] at h; cases h
      have hl2 : a.getLast? ≠ some 58 := fun e => by
        cases a with
        | nil => cases e
        | cons y a => exact hl (by rw [List.getLast?_cons_cons]; exact e)
      have hk : ¬ (x = 58 ∧ (a ++ 58 :: 58 :: b).head? = some 58) := fun ⟨k1, k2⟩ => by
        cases a with
        | nil => exact hl (by rw [k1]; rfl)
        | cons y a => exact k ⟨k1, k2⟩
      show cut2 (x :: (a ++ 58 :: 58 :: b)) = _
      rw [cut2, if_neg hk, cut2_at h2 hl2]; rfl
theorem par_p6 {l : List UInt8} (hl : l.length = 16) : parR (p6L l) = some (true, l) := by
  obtain ⟨h1, h2, h3⟩ := gl_byt 8 l (by omega)
  have hz : (zsOf (gl l)).length = 8 := by unfold zsOf; rw [List.length_map, h2]
  obtain ⟨g1, g2, _, g4, _, _⟩ := gap_facts hz
  unfold p6L prG
  have hn : ∀ x ∈ (gl l).map grp, NC x := fun x hx => by obtain ⟨n, _, rfl⟩ := List.mem_map.1 hx; exact grp_nc n
  by_cases hc : (gapS (zsOf (gl l))).2 - (gapS (zsOf (gl l))).1 < 2
  · rw [if_pos hc]
    have hcol : (58 : UInt8) ∈ jn 58 ((gl l).map grp) := by
      match hgl : gl l, h2 with
      | a :: b :: r, _ =>
        rw [List.map_cons, List.map_cons, jn_cons _ (by simp)]; simp
    unfold parR
    rw [fourL_colon hcol, cut2_jn _ hn]
    show Option.map _ (Option.bind (grpsR true _) _) = _
    rw [grpsR_grp true _ h3, h1, Option.bind_some]
    unfold putA
    rw [if_neg (by simp : ¬ (false = true)), if_pos (by simp [hl])]
    unfold z16; simp [hl]
  · rw [if_neg hc]
    obtain ⟨_, _, e⟩ := g4 (by omega)
    generalize (gapS (zsOf (gl l))).1 = f at *
    generalize (gapS (zsOf (gl l))).2 = t at *
    have hA : ∀ x ∈ ((gl l).map grp).take f, NC x := fun x hx => hn x (List.mem_of_mem_take hx)
    have hcut : cut2 (jn 58 (((gl l).map grp).take f) ++ 58 :: 58 :: jn 58 (((gl l).map grp).drop t)) = some (jn 58 (((gl l).map grp).take f), jn 58 (((gl l).map grp).drop t)) := by
      refine cut2_at (cut2_jn _ hA) ?_
      by_cases h0 : ((gl l).map grp).take f = []
      · rw [h0]; simp [jn]
      · exact (jn_last h0 hA).2
    unfold parR
    rw [fourL_colon (by simp), hcut]
    show Option.map _ (Option.bind (grpsR false _) _) = _
    rw [← List.map_take, ← List.map_drop, grpsR_grp false _ (fun n hn => h3 n (List.mem_of_mem_take hn)), Option.bind_some, grpsR_grp true _ (fun n hn => h3 n (List.mem_of_mem_drop hn)), Option.bind_some]
    unfold putA
    have l1 : (byt ((gl l).take f)).length = 2 * f := by rw [byt_len, List.length_take, h2]; omega
    have l2 : (byt ((gl l).drop t)).length = 2 * (8 - t) := by rw [byt_len, List.length_drop, h2]
    rw [if_pos rfl, if_pos (by omega)]
    show some (true, z16 _ _) = _
    have hzero : gl l = (gl l).take f ++ (List.replicate (t - f) 0 ++ (gl l).drop t) := by
      have key : ∀ (g : List Nat) (f m t : Nat), f + m = t → t ≤ g.length → zsOf g = (zsOf g).take f ++ (List.replicate m true ++ (zsOf g).drop t) → g = g.take f ++ (List.replicate m 0 ++ g.drop t) := by
        intro g f m t hfm htl hz
        apply List.ext_getElem?
        intro i
        by_cases h1 : i < f
        · rw [List.getElem?_append_left (by rw [List.length_take]; omega), List.getElem?_take, if_pos h1]
        · by_cases h2 : i < t
          · have e1 := congrArg (·[i]?) hz
            try simp only at e1
            rw [List.getElem?_append_right (by rw [List.length_take]; omega), List.getElem?_append_left (by rw [List.length_replicate, List.length_take]; unfold zsOf; rw [List.length_map]; omega), List.getElem?_replicate] at e1
            rw [if_pos (by rw [List.length_take]; unfold zsOf; rw [List.length_map]; omega)] at e1
            unfold zsOf at e1
            rw [List.getElem?_map, List.getElem?_eq_getElem (by omega)] at e1
            have e2 : g[i]'(by omega) = 0 := by simpa using e1
            rw [List.getElem?_append_right (by rw [List.length_take]; omega), List.getElem?_append_left (by rw [List.length_replicate, List.length_take]; omega), List.getElem?_replicate, if_pos (by rw [List.length_take]; omega), List.getElem?_eq_getElem (by omega), e2]
          · rw [List.getElem?_append_right (by rw [List.length_take]; omega), List.getElem?_append_right (by rw [List.length_replicate, List.length_take]; omega), List.getElem?_drop, List.length_take, List.length_replicate]
            congr 1; omega
      exact key (gl l) f (t - f) t (by omega) (by omega) e
    have hb := congrArg byt hzero
    rw [h1, byt_app, byt_app, byt_zero] at hb
    unfold z16
    rw [l1, l2, show 16 - 2 * f - 2 * (8 - t) = 2 * (t - f) by omega, ← hb]
theorem par_p4 {l : List UInt8} (hl : l.length = 4) : parR (p4L l) = some (false, l ++ List.replicate 12 0) := by
  match l, hl with
  | [a, b, c, d], _ =>
    have ha := a.toNat_lt; have hb := b.toNat_lt; have hc := c.toNat_lt; have hd := d.toNat_lt
    have no : ∀ n, (46 : UInt8) ∉ Lib.decDigits n := fun n hm => by have := decDigits_dig n 46 hm; revert this; decide
    have hs : spl 46 (p4L [a, b, c, d]) = [Lib.decDigits a.toNat, Lib.decDigits b.toNat, Lib.decDigits c.toNat, Lib.decDigits d.toNat] := by
      show spl 46 (jn 46 [Lib.decDigits a.toNat, Lib.decDigits b.toNat, Lib.decDigits c.toNat, Lib.decDigits d.toNat]) = _
      refine spl_jn 46 _ (by simp) (fun x hx => ?_)
      simp only [List.mem_cons, List.not_mem_nil, or_false] at hx
      rcases hx with rfl | rfl | rfl | rfl <;> exact no _
    have hf : fourL (p4L [a, b, c, d]) = some [a, b, c, d] := by
      unfold fourL
      rw [hs, if_pos (show ([Lib.decDigits a.toNat, Lib.decDigits b.toNat, Lib.decDigits c.toNat, Lib.decDigits d.toNat] : List (List UInt8)).length = 4 from rfl)]
      simp only [decM, num_of (most := 255) (show a.toNat ≤ 255 by omega) (by omega), num_of (most := 255) (show b.toNat ≤ 255 by omega) (by omega), num_of (most := 255) (show c.toNat ≤ 255 by omega) (by omega), num_of (most := 255) (show d.toNat ≤ 255 by omega) (by omega), Option.bind_some, Option.map_some, u8_ofNat]
    unfold parR
    rw [hf]
end Go.Proofs.YtmfdnbjmfgljlaaGreatDoor


/-
  The texts of endpoints: all ways to read them come to the same. No program is named here.
-/


namespace Go.Proofs.YtmfdnbjmfgljlaaGreatDoor

open Go.Lib

abbrev AddrL := Bool × List UInt8
abbrev EndsL := AddrL × Nat
def mayL (a : AddrL) : Bool := a.1 || a.2.drop 4 == List.replicate 12 0
def prL (a : AddrL) : List UInt8 := if a.1 then p6L a.2 else p4L a.2
def endsL (e : EndsL) : List UInt8 := (if e.1.1 then 91 :: (p6L e.1.2 ++ [93]) else p4L e.1.2) ++ 58 :: Lib.decDigits e.2
def okA (a : AddrL) : Prop := a.2.length = 16 ∧ mayL a = true
def zeroA : AddrL := (false, List.replicate 16 0)
theorem zero_okA : okA zeroA := ⟨rfl, rfl⟩
theorem putA_len {sh : Bool} {f b c : List UInt8} (h : putA sh f b = some c) : c.length = 16 := by
  obtain ⟨h1, h2, rfl⟩ := putA_some h
  unfold z16
  rw [List.length_append, List.length_append, List.length_replicate]
  cases sh
  · have := h2 rfl; omega
  · have := h1 rfl; omega
theorem par_okA {l : List UInt8} {a : AddrL} (h : parR l = some a) : okA a := by
  unfold parR at h
  cases e : fourL l with
  | some b =>
    rw [e] at h
    cases h
    have := fourL_len e
    refine ⟨by simp [this], ?_⟩
    show (false || _) = true
    rw [Bool.false_or, beq_iff_eq, List.drop_append_of_le_length (by omega), List.drop_eq_nil_of_le (by omega)]; rfl
  | none =>
    rw [e] at h
    dsimp only at h
    have key : ∀ {o : Option (List UInt8)}, o.map (fun b => (true, b)) = some a → (∀ c, o = some c → c.length = 16) → okA a := by
      intro o h1 h2
      cases o with
      | none => cases h1
      | some c => cases h1; exact ⟨h2 c rfl, rfl⟩
    refine key h ?_
    intro c hc
    cases e2 : cut2 l with
    | none =>
      rw [e2] at hc
      dsimp only at hc
      cases e3 : grpsR true l with
      | none => rw [e3] at hc; cases hc
      | some f => rw [e3, Option.bind_some] at hc; exact putA_len hc
    | some q =>
      obtain ⟨a, t⟩ := q
      rw [e2] at hc
      dsimp only at hc
      cases e3 : grpsR false a with
      | none => rw [e3] at hc; cases hc
      | some f =>
        rw [e3, Option.bind_some] at hc
        cases e5 : grpsR true t with
        | none => rw [e5] at hc; cases hc
        | some b => rw [e5, Option.bind_some] at hc; exact putA_len hc
/-- What is printed is read as it was. -/
theorem par_pr {a : AddrL} (h : okA a) : parR (prL a) = some a := by
  obtain ⟨v, l⟩ := a
  obtain ⟨h1, h2⟩ := h
  simp only at h1
  unfold prL
  cases v with
  | true => exact par_p6 h1
  | false =>
    have h3 : l.drop 4 = List.replicate 12 0 := by
      unfold mayL at h2; simpa using h2
    have e : p4L l = p4L (l.take 4) := by unfold p4L; rw [List.take_take]; rfl
    show parR (p4L l) = _
    rw [e, par_p4 (by rw [List.length_take]; omega), ← h3, List.take_append_drop]
/-- The bytes of printed texts. -/
def inP (c : UInt8) : Prop := c = 58 ∨ c = 46 ∨ isHx c = true
theorem jn_mem {c b : UInt8} : ∀ {r : List (List UInt8)}, b ∈ jn c r → b = c ∨ ∃ x ∈ r, b ∈ x
  | [], h => by simp [jn] at h
  | [x], h => .inr ⟨x, by simp, h⟩
  | x :: y :: r, h => by
    rw [jn_cons x (by simp), List.mem_append, List.mem_cons] at h
    rcases h with h | h | h
    · exact .inr ⟨x, by simp, h⟩
    · exact .inl h
    · rcases jn_mem h with h | ⟨z, hz, h⟩
      · exact .inl h
      · exact .inr ⟨z, by simp only [List.mem_cons] at hz ⊢; exact .inr hz, h⟩
theorem isDig_hx {c : UInt8} (h : isDig c = true) : isHx c = true := by
  rw [isDig_nat] at h; rw [isHx_iff]; exact .inl h
theorem p4_in {l : List UInt8} {c : UInt8} (h : c ∈ p4L l) : inP c ∧ c ≠ 58 := by
  rcases jn_mem h with rfl | ⟨x, hx, hc⟩
  · exact ⟨.inr (.inl rfl), by decide⟩
  · obtain ⟨n, _, rfl⟩ := List.mem_map.1 hx
    have h1 := isDig_hx (decDigits_dig _ c hc)
    exact ⟨.inr (.inr h1), (isHx_no h1).1⟩
theorem p6_in {l : List UInt8} {c : UInt8} (h : c ∈ p6L l) : inP c := by
  have key : ∀ {r : List (List UInt8)}, (∀ x ∈ r, ∃ n, x = grp n) → c ∈ jn 58 r → inP c := fun hr hm => by
    rcases jn_mem hm with rfl | ⟨x, hx, hc⟩
    · exact .inl rfl
    · obtain ⟨n, rfl⟩ := hr x hx
      exact .inr (.inr (grp_hx n c hc))
  have hg : ∀ x ∈ (gl l).map grp, ∃ n, x = grp n := fun x hx => by obtain ⟨n, _, e⟩ := List.mem_map.1 hx; exact ⟨n, e.symm⟩
  unfold p6L prG at h
  split at h
  · exact key hg h
  · rw [List.mem_append, List.mem_cons, List.mem_cons] at h
    rcases h with h | h | h | h
    · exact key (fun x hx => hg x (List.mem_of_mem_take hx)) h
    · exact .inl h
    · exact .inl h
    · exact key (fun x hx => hg x (List.mem_of_mem_drop hx)) h
theorem inP_no {c : UInt8} (h : inP c) : c ≠ 91 ∧ c ≠ 93 := by
  rcases h with rfl | rfl | h
  · decide
  · decide
  · rw [isHx_iff] at h
    constructor <;> (intro e; subst e; revert h; decide)
theorem dropWhile_none {p : UInt8 → Bool} : ∀ {l : List UInt8}, (∀ x ∈ l, p x = false) → l.dropWhile p = l
  | [], _ => rfl
  | x :: l, h => by rw [List.dropWhile, h x (by simp)]
theorem trim_none {l : List UInt8} (h : ∀ c ∈ l, inP c) : Lib.trimS l [91, 93] = l := by
  have hp : ∀ x ∈ l, ([91, 93] : List UInt8).contains x = false := fun x hx => by
    have := inP_no (h x hx)
    simp [this.1, this.2]
  unfold Lib.trimS Lib.trimLeftS Lib.trimRightS
  rw [dropWhile_none (l := l.reverse) (fun x hx => hp x (List.mem_reverse.1 hx)), List.reverse_reverse, dropWhile_none hp]
theorem trim_br {l : List UInt8} (h : ∀ c ∈ l, inP c) : Lib.trimS (91 :: (l ++ [93])) [91, 93] = l := by
  have hp : ∀ x ∈ l, ([91, 93] : List UInt8).contains x = false := fun x hx => by
    have := inP_no (h x hx)
    simp [this.1, this.2]
  unfold Lib.trimS Lib.trimLeftS Lib.trimRightS
  have e1 : (91 :: (l ++ [93])).reverse = 93 :: (l.reverse ++ [91]) := by simp
  rw [e1, List.dropWhile, show ([91, 93] : List UInt8).contains 93 = true from rfl]
  by_cases hl : l = []
  · subst hl; rfl
  · have e2 : (l.reverse ++ [91]).dropWhile (fun x => ([91, 93] : List UInt8).contains x) = l.reverse ++ [91] := by
      cases hr : l.reverse with
      | nil => rw [List.reverse_eq_nil_iff] at hr; exact absurd hr hl
      | cons x r =>
        rw [List.cons_append, List.dropWhile, hp x (List.mem_reverse.1 (by rw [hr]; simp))]
    show List.dropWhile _ (List.reverse (List.dropWhile (fun x => ([91, 93] : List UInt8).contains x) (l.reverse ++ [91]))) = l
    rw [e2, List.reverse_append, List.reverse_reverse]
    show List.dropWhile _ (91 :: l) = l
    rw [List.dropWhile, show ([91, 93] : List UInt8).contains 91 = true from rfl]
    exact dropWhile_none hp
/-- As the program reads an endpoint. -/
def addrOf (t : List UInt8) : AddrL := (parR t).getD zeroA
def portOf (y : List UInt8) : Nat := ((uuS y).getD 0).toNat % 65536
def candA (l : List UInt8) : EndsL := match lastAt 58 l with
  | some (x, y) => (addrOf (Lib.trimS x.dropLast [91, 93]), portOf y)
  | none => (zeroA, portOf l)
def peA (l : List UInt8) : Option EndsL := if endsL (candA l) = l then some (candA l) else none
theorem addrOf_ok (t : List UInt8) : okA (addrOf t) := by
  unfold addrOf
  cases e : parR t with
  | none => exact zero_okA
  | some a => exact par_okA e
theorem candA_ok (l : List UInt8) : okA (candA l).1 ∧ (candA l).2 < 65536 := by
  unfold candA portOf
  cases lastAt 58 l with
  | none => exact ⟨zero_okA, Nat.mod_lt _ (by omega)⟩
  | some q => exact ⟨addrOf_ok _, Nat.mod_lt _ (by omega)⟩
theorem port_dec {p : Nat} (h : p < 65536) : portOf (Lib.decDigits p) = p := by
  unfold portOf
  have := uu_itoa (n := (p : Int)) (by omega) (by omega)
  rw [Lib.itoa_nonneg] at this
  rw [this]
  show p % 65536 = p
  omega
theorem dec_no58 (p : Nat) : (58 : UInt8) ∉ Lib.decDigits p := fun hm => by have := decDigits_dig p 58 hm; revert this; decide
/-- An endpoint's text is read as that endpoint. -/
theorem cand_ends {e : EndsL} (h : okA e.1) (hp : e.2 < 65536) : candA (endsL e) = e := by
  obtain ⟨⟨v, l⟩, p⟩ := e
  have hpr := par_pr h
  unfold candA
  have hl : lastAt 58 (endsL ((v, l), p)) = some ((if v then 91 :: (p6L l ++ [93]) else p4L l) ++ [58], Lib.decDigits p) := by
    refine lastAt_some.2 ⟨_, rfl, ?_, dec_no58 p⟩
    unfold endsL; simp
  rw [hl]
  dsimp only
  rw [List.dropLast_concat, port_dec hp]
  have ht : Lib.trimS (if v = true then 91 :: (p6L l ++ [93]) else p4L l) [91, 93] = prL (v, l) := by
    unfold prL
    cases v with
    | true => exact trim_br (fun c hc => p6_in hc)
    | false => exact trim_none (fun c hc => (p4_in hc).1)
  rw [ht]
  unfold addrOf
  rw [hpr]; rfl
/-- As the document reads an endpoint: at one place. -/
def unBr (t : List UInt8) : List UInt8 := if 1 < t.length ∧ t.head? = some 91 ∧ t.getLast? = some 93 then (t.drop 1).dropLast else t
def hitR (l : List UInt8) (i : Nat) : Option EndsL :=
  if l[i]? = some 58 then (numL 65535 (l.drop (i + 1))).bind fun n => (parR (unBr (l.take i))).bind fun a => if endsL (a, n) = l then some (a, n) else none else none
def findR (l : List UInt8) : Nat → Nat → Option EndsL
  | 0, _ => none
  | k + 1, i => match hitR l i with
    | some e => some e
    | none => findR l k (i + 1)
def peR (l : List UInt8) : Option EndsL := findR l l.length 0
theorem hit_some {l : List UInt8} {i : Nat} {e : EndsL} (h : hitR l i = some e) : endsL e = l ∧ okA e.1 ∧ e.2 < 65536 := by
  unfold hitR at h
  split at h
  · cases e1 : numL 65535 (l.drop (i + 1)) with
    | none => rw [e1] at h; cases h
    | some n =>
      rw [e1, Option.bind_some] at h
      cases e2 : parR (unBr (l.take i)) with
      | none => rw [e2] at h; cases h
      | some a =>
        rw [e2, Option.bind_some] at h
        split at h
        · cases h
          exact ⟨by assumption, par_okA e2, by have := (num_dec e1).2; omega⟩
        · cases h
  · cases h
theorem find_some {l : List UInt8} : ∀ {k i : Nat} {e : EndsL}, findR l k i = some e → endsL e = l ∧ okA e.1 ∧ e.2 < 65536
  | 0, _, _, h => by cases h
  | k + 1, i, e, h => by
    unfold findR at h
    cases e1 : hitR l i with
    | some x => rw [e1] at h; cases h; exact hit_some e1
    | none => rw [e1] at h; exact find_some h
theorem find_none {l : List UInt8} : ∀ {k i : Nat}, findR l k i = none → ∀ j, i ≤ j → j < i + k → hitR l j = none
  | 0, _, _, j, h1, h2 => by omega
  | k + 1, i, h, j, h1, h2 => by
    unfold findR at h
    cases e1 : hitR l i with
    | some x => rw [e1] at h; cases h
    | none =>
      rw [e1] at h
      by_cases hj : j = i
      · rw [hj]; exact e1
      · exact find_none h j (by omega) (by omega)
theorem hit_at {e : EndsL} (h : okA e.1) (hp : e.2 < 65536) : ∃ i, i < (endsL e).length ∧ hitR (endsL e) i = some e := by
  obtain ⟨⟨v, l⟩, p⟩ := e
  have hpr := par_pr h
  have hform : endsL ((v, l), p) = (if v then 91 :: (p6L l ++ [93]) else p4L l) ++ 58 :: Lib.decDigits p := rfl
  generalize hx : (if v = true then 91 :: (p6L l ++ [93]) else p4L l) = x at hform
  have hi : x.length < (endsL ((v, l), p)).length := by rw [hform]; simp
  refine ⟨x.length, hi, ?_⟩
  unfold hitR
  have h1 : (endsL ((v, l), p))[x.length]? = some 58 := by rw [hform]; simp
  have h2 : (endsL ((v, l), p)).drop (x.length + 1) = Lib.decDigits p := by
    rw [hform, show x ++ 58 :: Lib.decDigits p = (x ++ [58]) ++ Lib.decDigits p by simp]
    exact List.drop_left' (by simp)
  have h3 : (endsL ((v, l), p)).take x.length = x := by rw [hform]; simp
  have h4 : unBr x = prL (v, l) := by
    subst hx
    unfold unBr prL
    cases v with
    | true =>
      rw [if_pos]
      · show List.dropLast (p6L l ++ [93]) = p6L l
        exact List.dropLast_concat
      · refine ⟨by simp, by simp, ?_⟩
        rw [if_pos rfl, show (91 :: (p6L l ++ [93]) : List UInt8) = (91 :: p6L l) ++ [93] by simp, List.getLast?_append]; rfl
    | false =>
      rw [if_neg]
      · rfl
      · rintro ⟨_, h2, _⟩
        rw [if_neg (by simp)] at h2
        have := List.mem_of_mem_head? h2
        exact (inP_no (p4_in this).1).1 rfl
  rw [if_pos h1, h2, num_of (by omega) (by omega), Option.bind_some, h3, h4, hpr, Option.bind_some, if_pos rfl]
/-- The program and the document read an endpoint alike. -/
theorem pe_same (l : List UInt8) : peR l = peA l := by
  unfold peA
  cases e : peR l with
  | some x =>
    obtain ⟨h1, h2, h3⟩ := find_some e
    have h4 : candA l = x := by rw [← h1]; exact cand_ends h2 h3
    rw [h4, if_pos h1]
  | none =>
    by_cases hc : endsL (candA l) = l
    · obtain ⟨h1, h2⟩ := candA_ok l
      obtain ⟨i, hi, hh⟩ := hit_at h1 h2
      rw [hc] at hi hh
      have := find_none e i (by omega) (by omega)
      rw [this] at hh; cases hh
    · rw [if_neg hc]
theorem pe_ends {e : EndsL} (h : okA e.1) (hp : e.2 < 65536) : peA (endsL e) = some e := by
  unfold peA; rw [cand_ends h hp, if_pos rfl]
theorem pr_inj {a b : AddrL} (ha : okA a) (hb : okA b) (h : prL a = prL b) : a = b := by
  have h1 := par_pr ha
  rw [h, par_pr hb] at h1
  exact (Option.some.inj h1).symm
end Go.Proofs.YtmfdnbjmfgljlaaGreatDoor


/-
  Great letters and small ones make no difference to a notation. No program is named here.
-/



namespace Go.Proofs.YtmfdnbjmfgljlaaGreatDoor

open Go.Lib

set_option maxRecDepth 100000

def rowOk (c : Nat) (x : CaseRow) : Bool := decide (x.delta c > 1114111) || decide (128 ≤ (x.1 : Int) + x.delta c) || (decide (x.1 = x.2.1) && [73, 75, 83, 105, 107].contains ((x.1 : Int) + x.delta c))
theorem case_chk : (caseT.all fun x => decide (x.2.1 < 128) || (decide (128 ≤ x.1) && rowOk 0 x && rowOk 1 x)) = true := by decide +kernel
theorem lookup_at (T : Array CaseRow) (r : Int) : ∀ (f lo hi i : Nat), lookupIdx T r f lo hi = some i → ((T.getD i (0, 0, 0, 0, 0)).1 : Int) ≤ r ∧ r ≤ ((T.getD i (0, 0, 0, 0, 0)).2.1 : Int)
  | 0, _, _, _, h => by cases h
  | f + 1, lo, hi, i, h => by
    unfold lookupIdx at h
    split at h
    · split at h
      · rename_i k; cases h; exact k
      · split at h
        · exact lookup_at T r f _ _ i h
        · exact lookup_at T r f _ _ i h
    · cases h
/-- What a rune that is no ASCII becomes. -/
def Far (v : Int) : Prop := 128 ≤ v ∨ v = 73 ∨ v = 75 ∨ v = 83 ∨ v = 105 ∨ v = 107
theorem to_far {c : Nat} (hc : c = 0 ∨ c = 1) {r : Int} (hr : 128 ≤ r) : Far (toR caseA c r) := by
  unfold toR lookupGo
  cases e : lookupIdx caseA r (caseA.size + 1) 0 caseA.size with
  | none => exact .inl hr
  | some i =>
    obtain ⟨h1, h2⟩ := lookup_at _ _ _ _ _ _ e
    show Far (convertR c r (caseA.getD i (0, 0, 0, 0, 0)))
    generalize hx : caseA.getD i (0, 0, 0, 0, 0) = x at h1 h2
    have hm : x ∈ caseT := by
      by_cases hi : i < caseT.length
      · rw [← hx]
        have : caseA.getD i (0, 0, 0, 0, 0) = caseT[i] := by simp [caseA, Array.getD, hi]
        rw [this]; exact List.getElem_mem hi
      · have : caseA.getD i (0, 0, 0, 0, 0) = (0, 0, 0, 0, 0) := by simp [caseA, Array.getD, hi]
        rw [hx] at this
        rw [this] at h2
        simp at h2; omega
    have hk := List.all_eq_true.1 case_chk x hm
    simp only [Bool.or_eq_true, Bool.and_eq_true, decide_eq_true_eq] at hk
    rcases hk with hk | ⟨⟨hk, h0⟩, h1'⟩
    · omega
    · have hro : rowOk c x = true := by rcases hc with rfl | rfl <;> assumption
      unfold rowOk at hro
      simp only [Bool.or_eq_true, Bool.and_eq_true, decide_eq_true_eq] at hro
      unfold convertR Far
      rcases hro with (hro | hro) | ⟨h3, h4⟩
      · rw [if_pos hro]
        have : 0 ≤ (r - (x.1 : Int)) - (r - (x.1 : Int)) % 2 := by omega
        omega
      · split
        · have : 0 ≤ (r - (x.1 : Int)) - (r - (x.1 : Int)) % 2 := by omega
          omega
        · omega
      · have h5 : r = (x.1 : Int) := by omega
        have h6 : (x.1 : Int) + x.delta c = 73 ∨ (x.1 : Int) + x.delta c = 75 ∨ (x.1 : Int) + x.delta c = 83 ∨ (x.1 : Int) + x.delta c = 105 ∨ (x.1 : Int) + x.delta c = 107 := by
          simpa using h4
        split
        · have : 0 ≤ (r - (x.1 : Int)) - (r - (x.1 : Int)) % 2 := by omega
          omega
        · rw [h5]; omega
theorem lower_far {r : Int} (hr : 128 ≤ r) : Far (toLowerU r) := by
  unfold toLowerU; rw [if_neg (by omega)]; exact to_far (.inr rfl) hr
theorem upper_far {r : Int} (hr : 128 ≤ r) : Far (toUpperU r) := by
  unfold toUpperU; rw [if_neg (by omega)]; exact to_far (.inl rfl) hr
/-- A byte of no notation. -/
def Odd (b : UInt8) : Prop := ¬ inP b
theorem odd_nat {b : UInt8} (h : 128 ≤ b.toNat ∨ b.toNat = 73 ∨ b.toNat = 75 ∨ b.toNat = 83 ∨ b.toNat = 105 ∨ b.toNat = 107) : Odd b := by
  intro hp
  rcases hp with rfl | rfl | hp
  · revert h; decide
  · revert h; decide
  · rw [isHx_iff] at hp; omega
theorem u8_int {z : Int} (h0 : 0 ≤ z) (h1 : z ≤ 255) : (z.toNat.toUInt8).toNat = z.toNat := by
  simp [Nat.toUInt8]; omega
theorem enc_odd {v : Int} (h : Far v) : ∃ b ∈ encodeRune v, Odd b := by
  unfold Far at h
  unfold encodeRune
  have one : v < 128 → ∃ b ∈ (encodeRuneZ v).map (fun x => x.toNat.toUInt8), Odd b := fun hv => by
    rw [encodeRuneZ_one (by omega) (by omega)]
    refine ⟨v.toNat.toUInt8, by simp, odd_nat ?_⟩
    rw [u8_int (by omega) (by omega)]; omega
  by_cases hv : v < 128
  · exact one hv
  · unfold encodeRuneZ
    rw [if_neg (by omega)]
    split
    · refine ⟨(192 + v / 64).toNat.toUInt8, by simp, odd_nat (.inl ?_)⟩
      rw [u8_int (by omega) (by omega)]; omega
    · split
      · refine ⟨(224 + v / 4096).toNat.toUInt8, by simp, odd_nat (.inl ?_)⟩
        rw [u8_int (by omega) (by omega)]; omega
      · split
        · refine ⟨(240 + v / 262144).toNat.toUInt8, by simp, odd_nat (.inl ?_)⟩
          rw [u8_int (by omega) (by omega)]; omega
        · exact ⟨239, by decide, odd_nat (.inl (by decide))⟩
theorem far_nn {v : Int} (h : Far v) : 0 ≤ v := by unfold Far at h; omega
theorem decode_far (b : UInt8) (t : List UInt8) (h : 128 ≤ b.toNat) : 128 ≤ (decodeL (b :: t)).1 := by
  unfold decodeL
  have := (decode_high (⟨(b :: t).toArray⟩ : ByteArray) 0 (by simp [ByteArray.size]) h).1
  exact this
theorem map_odd {f : Int → Int} (hf : ∀ r : Int, 128 ≤ r → Far (f r)) : ∀ (k : Nat) (l : List UInt8), l.length ≤ k → (∃ b ∈ l, 128 ≤ b.toNat) → ∃ b ∈ mapD f l, Odd b
  | 0, l, hk, ⟨b, hb, _⟩ => by
    obtain rfl : l = [] := List.length_eq_zero_iff.1 (by omega)
    cases hb
  | k + 1, [], _, ⟨b, hb, _⟩ => by cases hb
  | k + 1, a :: t, hk, ⟨b, hb, h8⟩ => by
    rw [mapD_step f (a :: t) (by simp)]
    by_cases ha : a.toNat < 128
    · rw [decodeL_ascii a t ha]
      have hbt : b ∈ t := by
        rw [List.mem_cons] at hb
        rcases hb with rfl | hb
        · omega
        · exact hb
      obtain ⟨c, hc, ho⟩ := map_odd hf k t (by simpa using hk) ⟨b, hbt, h8⟩
      exact ⟨c, by simp only [List.drop_succ_cons, List.drop_zero, List.mem_append]; exact .inr hc, ho⟩
    · have hfar := hf (decodeL (a :: t)).1 (by have := decode_far a t (by omega); omega)
      obtain ⟨c, hc, ho⟩ := enc_odd hfar
      rw [if_pos (far_nn hfar)]
      exact ⟨c, List.mem_append_left _ hc, ho⟩
theorem ascii_or (l : List UInt8) : (∀ b ∈ l, b.toNat < 128) ∨ ∃ b ∈ l, 128 ≤ b.toNat := by
  by_cases h : ∃ b ∈ l, 128 ≤ b.toNat
  · exact .inr h
  · exact .inl fun b hb => Nat.lt_of_not_le fun h2 => h ⟨b, hb, h2⟩
theorem lowerB_eq (b : UInt8) (h : b.toNat < 128) : lowerB b = lowC b := by
  have key : ∀ i : Fin 128, lowerB (UInt8.ofNat i.val) = lowC (UInt8.ofNat i.val) := by decide +kernel
  have := key ⟨b.toNat, h⟩
  simpa using this
theorem pad_low {g : List UInt8} (h1 : 1 ≤ g.length) (h4 : g.length ≤ 4) : unhexL (List.replicate (4 - g.length) 48 ++ toLowerD g) = (hexG g).map two := by
  rcases ascii_or g with ha | ha
  · rw [toLowerD_ascii g ha]
    have : toLowerA g = g.map lowC := by
      unfold toLowerA
      exact List.map_congr_left fun b hb => lowerB_eq b (ha b hb)
    rw [this, pad_unhex h1 h4]
  · obtain ⟨c, hc, ho⟩ := map_odd (f := toLowerU) (fun r hr => lower_far hr) _ g (Nat.le_refl _) ha
    have hn : unhexL (List.replicate (4 - g.length) 48 ++ toLowerD g) = none := by
      unfold unhexL
      rw [if_neg]
      rintro ⟨_, hall⟩
      have := List.all_eq_true.1 hall c (List.mem_append_right _ hc)
      refine ho (.inr (.inr ?_))
      rw [isHx_iff]
      unfold isHex at this
      simp only [Bool.or_eq_true, Bool.and_eq_true, decide_eq_true_eq] at this
      omega
    have hg : hexG g = none := by
      cases e : hexG g with
      | none => rfl
      | some n =>
        obtain ⟨b, hb, h8⟩ := ha
        have := List.all_eq_true.1 (hexG_all e) b hb
        rw [isHx_iff] at this; omega
    rw [hn, hg]; rfl
/-- Every byte of a notation may stand in one. -/
theorem hexM_in : ∀ {r : List (List UInt8)} {b : List UInt8}, hexM r = some b → ∀ g ∈ r, ∀ c ∈ g, isHx c = true
  | [], _, _, g, hg => by cases hg
  | x :: r, b, h, g, hg => by
    unfold hexM at h
    cases e : hexG x with
    | none => rw [e] at h; cases h
    | some n =>
      rw [e, Option.bind_some] at h
      cases e2 : hexM r with
      | none => rw [e2] at h; cases h
      | some y =>
        rw [List.mem_cons] at hg
        rcases hg with rfl | hg
        · exact fun c hc => List.all_eq_true.1 (hexG_all e) c hc
        · exact hexM_in e2 g hg
theorem grpsR_in {last : Bool} {l b : List UInt8} (h : grpsR last l = some b) : ∀ c ∈ l, inP c := by
  unfold grpsR at h
  split at h
  · rename_i e; subst e; intro c hc; cases hc
  · intro c hc
    rw [← jn_spl 58 _ l (Nat.le_refl _)] at hc
    rcases jn_mem hc with rfl | ⟨x, hx, hc⟩
    · exact .inl rfl
    · generalize spl 58 l = r at h hx
      obtain ⟨a, g, rfl⟩ : ∃ a g, r = a ++ [g] := ⟨r.dropLast, r.getLast (by intro e; rw [e] at hx; cases hx), (List.dropLast_concat_getLast _).symm⟩
      rw [refM_snoc] at h
      cases e : hexM a with
      | none => rw [e] at h; cases h
      | some y =>
        rw [e, Option.bind_some] at h
        rw [List.mem_append, List.mem_singleton] at hx
        rcases hx with hx | rfl
        · exact .inr (.inr (hexM_in e x hx c hc))
        · have key : ∀ y, (hexG x).map two = some y → inP c := fun y hy => by
            cases e2 : hexG x with
            | none => rw [e2] at hy; cases hy
            | some n => exact .inr (.inr (List.all_eq_true.1 (hexG_all e2) c hc))
          cases last with
          | false =>
            rw [if_neg (by simp)] at h
            cases e2 : (hexG x).map two with
            | none => rw [e2] at h; cases h
            | some y => exact key y e2
          | true =>
            rw [if_pos rfl] at h
            unfold lastG at h
            cases e3 : fourL x with
            | some z =>
              rcases (fourL_short e3).2 c hc with rfl | hd
              · exact .inr (.inl rfl)
              · exact .inr (.inr (isDig_hx hd))
            | none =>
              rw [e3] at h
              dsimp only at h
              cases e2 : (hexG x).map two with
              | none => rw [e2] at h; cases h
              | some y => exact key y e2
theorem par_in {l : List UInt8} {a : AddrL} (h : parR l = some a) : ∀ c ∈ l, inP c := by
  unfold parR at h
  cases e : fourL l with
  | some b =>
    intro c hc
    rcases (fourL_short e).2 c hc with rfl | hd
    · exact .inr (.inl rfl)
    · exact .inr (.inr (isDig_hx hd))
  | none =>
    rw [e] at h
    dsimp only at h
    cases e2 : cut2 l with
    | none =>
      rw [e2] at h
      dsimp only at h
      cases e3 : grpsR true l with
      | none => rw [e3] at h; cases h
      | some f => exact grpsR_in e3
    | some q =>
      obtain ⟨x, t⟩ := q
      rw [e2] at h
      dsimp only at h
      cases e3 : grpsR false x with
      | none => rw [e3] at h; cases h
      | some f =>
        rw [e3, Option.bind_some] at h
        cases e5 : grpsR true t with
        | none => rw [e5] at h; cases h
        | some b =>
          intro c hc
          rw [(cut2_some e2).1, List.mem_append, List.mem_cons, List.mem_cons] at hc
          rcases hc with hc | rfl | rfl | hc
          · exact grpsR_in e3 c hc
          · exact .inl rfl
          · exact .inl rfl
          · exact grpsR_in e5 c hc
end Go.Proofs.YtmfdnbjmfgljlaaGreatDoor


/-
  A notation in great letters is read as it was. No program is named here.
-/

namespace Go.Proofs.YtmfdnbjmfgljlaaGreatDoor

open Go.Lib

set_option maxRecDepth 100000

def upC (c : UInt8) : UInt8 := if 97 ≤ c.toNat ∧ c.toNat ≤ 122 then UInt8.ofNat (c.toNat - 32) else c
theorem upC_nat (c : UInt8) : (upC c).toNat = if 97 ≤ c.toNat ∧ c.toNat ≤ 122 then c.toNat - 32 else c.toNat := by
  have := c.toNat_lt
  unfold upC
  split
  · rw [show (UInt8.ofNat (c.toNat - 32)).toNat = (c.toNat - 32) % 256 by simp]; omega
  · rfl
theorem upC_hx (c : UInt8) : isHx (upC c) = isHx c := by
  rw [Bool.eq_iff_iff, isHx_iff, isHx_iff, upC_nat]
  split <;> omega
theorem upC_hxv (c : UInt8) (_h : isHx c = true) : hxv (upC c) = hxv c := by
  unfold hxv
  rw [upC_nat]
  by_cases k : 97 ≤ c.toNat ∧ c.toNat ≤ 122
  · rw [if_pos k, if_neg (by omega), if_pos (by omega), if_pos (by omega)]; omega
  · rw [if_neg k]
theorem upC_dig (c : UInt8) : isDig (upC c) = isDig c := by
  rw [Bool.eq_iff_iff, isDig_nat, isDig_nat, upC_nat]
  split <;> omega
theorem upC_same {c : UInt8} (h : isDig c = true) : upC c = c := by
  rw [isDig_nat] at h
  unfold upC; rw [if_neg (by omega)]
theorem upC_eq (c d : UInt8) (hd : d.toNat < 65) : upC c = d ↔ c = d := by
  constructor
  · intro h
    apply u8_eq
    have := congrArg UInt8.toNat h
    rw [upC_nat] at this
    split at this <;> omega
  · intro h
    subst h
    unfold upC; rw [if_neg (by omega)]
theorem spl_up (d : UInt8) (hd : d.toNat < 65) : ∀ l : List UInt8, spl d (l.map upC) = (spl d l).map (List.map upC)
  | [] => rfl
  | b :: l => by
    have ih := spl_up d hd l
    rw [List.map_cons, spl, spl, ih]
    by_cases h : b = d
    · rw [if_pos h, if_pos ((upC_eq b d hd).2 h)]; rfl
    · rw [if_neg h, if_neg (fun e => h ((upC_eq b d hd).1 e))]
      cases spl d l with
      | nil => rfl
      | cons x r => rfl
theorem all_dig_up (l : List UInt8) : (l.map upC).all isDig = l.all isDig := by
  rw [List.all_map]; congr 1; funext c; exact upC_dig c
theorem all_hx_up (l : List UInt8) : (l.map upC).all isHx = l.all isHx := by
  rw [List.all_map]; congr 1; funext c; exact upC_hx c
theorem dig_up {l : List UInt8} (h : l.all isDig = true) : l.map upC = l := by
  conv => rhs; rw [← List.map_id l]
  exact List.map_congr_left fun c hc => upC_same (List.all_eq_true.1 h c hc)
theorem num_up (most : Nat) (l : List UInt8) : numL most (l.map upC) = numL most l := by
  by_cases h : l.all isDig = true
  · rw [dig_up h]
  · have e : ∀ l : List UInt8, l.all isDig ≠ true → numL most l = none := fun l hl => by
      unfold numL; rw [if_neg]; rintro ⟨k, _⟩; exact hl ((numOk_iff l).1 k).2.2.2
    rw [e l h, e _ (by rw [all_dig_up]; exact h)]
theorem hexW_up : ∀ (l : List UInt8) (n : Nat), l.all isHx = true → hexW (l.map upC) n = hexW l n
  | [], _, _ => rfl
  | c :: r, n, h => by
    rw [List.all_cons, Bool.and_eq_true] at h
    rw [List.map_cons, hexW, hexW, upC_hxv c h.1, hexW_up r _ h.2]
theorem hexG_up (l : List UInt8) : hexG (l.map upC) = hexG l := by
  unfold hexG
  have e : hexOk (l.map upC) = hexOk l := by unfold hexOk; rw [List.length_map, all_hx_up]
  rw [e]
  by_cases h : hexOk l = true
  · rw [if_pos h, if_pos h, hexW_up l 0 ((hexOk_iff l).1 h).2.2]
  · rw [if_neg h, if_neg h]
theorem decM_up : ∀ r : List (List UInt8), decM (r.map (List.map upC)) = decM r
  | [] => rfl
  | g :: r => by rw [List.map_cons, decM, decM, num_up, decM_up r]
theorem hexM_up : ∀ r : List (List UInt8), hexM (r.map (List.map upC)) = hexM r
  | [] => rfl
  | g :: r => by rw [List.map_cons, hexM, hexM, hexG_up, hexM_up r]
theorem fourL_up (l : List UInt8) : fourL (l.map upC) = fourL l := by
  unfold fourL
  rw [spl_up 46 (by decide), List.length_map, decM_up]
theorem lastG_up (g : List UInt8) : lastG (g.map upC) = lastG g := by
  unfold lastG; rw [fourL_up, hexG_up]
theorem refM_up (last : Bool) (r : List (List UInt8)) : refM last (r.map (List.map upC)) = refM last r := by
  by_cases h : r = []
  · subst h; rfl
  · obtain ⟨a, g, rfl⟩ : ∃ a g, r = a ++ [g] := ⟨r.dropLast, r.getLast h, (List.dropLast_concat_getLast h).symm⟩
    rw [List.map_append, List.map_cons, List.map_nil, refM_snoc, refM_snoc, hexM_up, lastG_up, hexG_up]
theorem grpsR_up (last : Bool) (l : List UInt8) : grpsR last (l.map upC) = grpsR last l := by
  unfold grpsR
  by_cases h : l = []
  · subst h; rfl
  · rw [if_neg h, if_neg (by simpa using h), spl_up 58 (by decide), refM_up]
theorem cut2_up : ∀ l : List UInt8, cut2 (l.map upC) = (cut2 l).map fun p => (p.1.map upC, p.2.map upC)
  | [] => rfl
  | b :: l => by
    have ih := cut2_up l
    rw [List.map_cons, cut2, cut2]
    have e : (upC b = 58 ∧ (l.map upC).head? = some 58) ↔ (b = 58 ∧ l.head? = some 58) := by
      rw [upC_eq b 58 (by decide)]
      cases l with
      | nil => simp
      | cons c r => simp [upC_eq c 58 (by decide)]
    by_cases h : b = 58 ∧ l.head? = some 58
    · rw [if_pos h, if_pos (e.2 h), Option.map_some, List.map_nil, List.map_tail]
    · rw [if_neg h, if_neg (fun k => h (e.1 k)), ih]
      cases cut2 l with
      | none => rfl
      | some p => rfl
theorem par_upC (l : List UInt8) : parR (l.map upC) = parR l := by
  unfold parR
  rw [fourL_up]
  cases fourL l with
  | some b => rfl
  | none =>
    dsimp only
    rw [cut2_up]
    cases cut2 l with
    | none => dsimp only [Option.map_none]; rw [grpsR_up]
    | some p => dsimp only [Option.map_some]; rw [grpsR_up, grpsR_up]
theorem upperB_eq (b : UInt8) (h : b.toNat < 128) : upperB b = upC b := by
  have key : ∀ i : Fin 128, upperB (UInt8.ofNat i.val) = upC (UInt8.ofNat i.val) := by decide +kernel
  have := key ⟨b.toNat, h⟩
  simpa using this
theorem inP_ascii {c : UInt8} (h : inP c) : c.toNat < 128 := by
  rcases h with rfl | rfl | h
  · decide
  · decide
  · rw [isHx_iff] at h; omega
/-- Great letters make no difference. -/
theorem par_up (l : List UInt8) : parR (toUpperD l) = parR l := by
  rcases ascii_or l with ha | ha
  · rw [toUpperD_ascii l ha]
    have : toUpperA l = l.map upC := by
      unfold toUpperA
      exact List.map_congr_left fun b hb => upperB_eq b (ha b hb)
    rw [this, par_upC]
  · have h1 : parR l = none := by
      cases e : parR l with
      | none => rfl
      | some a =>
        obtain ⟨b, hb, h8⟩ := ha
        have := inP_ascii (par_in e b hb)
        omega
    have h2 : parR (toUpperD l) = none := by
      obtain ⟨c, hc, ho⟩ := map_odd (f := toUpperU) (fun r hr => upper_far hr) _ l (Nat.le_refl _) ha
      cases e : parR (toUpperD l) with
      | none => rfl
      | some a => exact absurd (par_in e c hc) ho
    rw [h1, h2]
end Go.Proofs.YtmfdnbjmfgljlaaGreatDoor


/-
  The reading of the layer addr: its first oracles.
-/


namespace Go.Proofs.YtmfdnbjmfgljlaaGreatDoor

open Go.Den Go.RowKit
noncomputable section
set_option maxRecDepth 100000

set_option linter.unusedSectionVars false

def zB (s : ByteArray) : Bool := s.data.toList == [48]
/-- What strings' functions tell, as letters. -/
structure Hh where
  hx : List UInt8 → ByteArray
  hxE : ∀ l, hx l = ⟨(hexL l).toArray⟩
  tl : ByteArray → UInt8 → ByteArray
  tlE : ∀ s c, tl s c = trimL s c
  jn : List Value → ByteArray → ByteArray
  jnE : ∀ l s, jn l s = joinS l s
  gp : UInt8 → UInt8 → ByteArray
  gpE : ∀ a b, gp a b = mkB (hx2 a b)
  p4 : List UInt8 → ByteArray
  p4E : ∀ l, p4 l = mkB (p4L l)
  p6 : List UInt8 → ByteArray
  p6E : ∀ l, p6 l = mkB (p6L l)
  dg : Int → Int → ByteArray
  dgE : ∀ n b, dg n b = mkB (digB b.toNat 20 n.toNat)
  gf : List ByteArray → Nat
  gfE : ∀ g, gf g = (gapS (g.map zB)).1
  gt : List ByteArray → Nat
  gtE : ∀ g, gt g = (gapS (g.map zB)).2
def theHh : Hh := ⟨fun l => ⟨(hexL l).toArray⟩, fun _ => rfl, trimL, fun _ _ => rfl, joinS, fun _ _ => rfl, fun a b => mkB (hx2 a b), fun _ _ => rfl, fun l => mkB (p4L l), fun _ => rfl, fun l => mkB (p6L l), fun _ => rfl, fun n b => mkB (digB b.toNat 20 n.toNat), fun _ _ => rfl, fun g => (gapS (g.map zB)).1, fun _ => rfl, fun g => (gapS (g.map zB)).2, fun _ => rfl⟩
variable [Inhabited Root]

section

variable [Inhabited Names]

def hexOrcX (X : Hh) (g : AHeap) (args : Array Value) (h : AHeap) (nx : Nat) : Option (Tree VR) :=
  match args with
  | ⟨[.slice (some a) len _]⟩ => match a.spot with
    | none => match Den.look g h a.block with
      | some B => some (.br (Nat.ble (a.off + len) B.cells.size && (decide (len ≤ 1048576) && allV isB8 (fext B.cells a.off (a.off + len)).toList)) (.leaf ⟨.string (X.hx (bytesIn (fext B.cells a.off (a.off + len)).toList)), h, nx⟩) .fail)
      | none => none
    | some _ => none
  | _ => none
def pmHexX (X : Hh) : PM Tryz.prog where
  f := pmHex.f
  orc := fun g args h nx => hexOrcX X g args h nx
  body := pmHex.body
  ok := fun g args h nx t r ho hr => by
    unfold hexOrcX at ho
    split at ho
    · rename_i a len cp
      split at ho
      · rename_i hsp
        split at ho
        · rename_i B hB
          cases ho
          refine pmHex.ok g _ h nx _ r ?_ hr
          show hexOrc g ⟨[.slice (some a) len cp]⟩ h nx = some _
          unfold hexOrc
          simp only [hsp, hB, X.hxE]
          rfl
        · cases ho
      · cases ho
    · cases ho
def joinOrcX (X : Hh) (g : AHeap) (args : Array Value) (h : AHeap) (nx : Nat) : Option (Tree VR) :=
  match args with
  | ⟨[.slice (some a) len cp, .string sep]⟩ => match a.spot with
    | none => match Den.look g h a.block with
      | some B => some (.br (Nat.ble (a.off + len) B.cells.size && (decide (len ≤ 1048577) && (Nat.blt cp B0 && (Nat.ble len cp && (allV isStr (fext B.cells a.off (a.off + len)).toList && decide ((X.jn (fext B.cells a.off (a.off + len)).toList sep).size ≤ 140737488355328))))))
          (.leaf ⟨.string (X.jn (fext B.cells a.off (a.off + len)).toList sep), h, nx⟩) .fail)
      | none => none
    | some _ => none
  | _ => none
def pmJoinX (X : Hh) : PM Tryz.prog where
  f := pmJoin.f
  orc := fun g args h nx => joinOrcX X g args h nx
  body := pmJoin.body
  ok := fun g args h nx t r ho hr => by
    unfold joinOrcX at ho
    split at ho
    · rename_i a len cp sep
      split at ho
      · rename_i hsp
        split at ho
        · rename_i B hB
          cases ho
          refine pmJoin.ok g _ h nx _ r ?_ hr
          show joinOrc g ⟨[.slice (some a) len cp, .string sep]⟩ h nx = some _
          unfold joinOrc
          simp only [hsp, hB, X.jnE]
        · cases ho
      · cases ho
    · cases ho
end

def trimLX (X : Hh) : Array Value → Option (Bool × Value)
  | ⟨[.string s, .string ⟨⟨[c]⟩⟩]⟩ => some (decide (c.toNat < 128), .string (X.tl s c))
  | _ => none
def pcTrimLX (X : Hh) : PC Tryz.prog where
  f := pcTrimL.f
  spec := trimLX X
  body := pcTrimL.body
  ok := fun args r hr hok => by
    refine pcTrimL.ok args r ?_ hok
    unfold trimLX at hr
    split at hr
    · cases hr; rw [X.tlE]; rfl
    · cases hr
def memsA [Inhabited Names] (hR : Ra) (X : Hh) : List (PM Tryz.prog) :=
  (pkUns hR.tab).mem :: (pkUnun hR.tab).mem :: pmHexX X :: pmUnhex :: pmJoinX X :: pcRep.up.mem :: pcHas.up.mem :: pcLast.up.mem :: pcTrimP.up.mem :: pcTrimS.up.mem :: (pcTrimLX X).up.mem :: (pkLow hR).mem :: (pkUp hR).mem :: (pkCut hR).mem :: pmSplit hR.max :: []
def envA [Inhabited Names] (hR : Ra) (X : Hh) : Env Tryz.prog := envS.mem false (memsA hR X)
end

end Go.Proofs.YtmfdnbjmfgljlaaGreatDoor


/-
  One way through a reading, told shortly: how many partings are settled by the reading alone, then which side is taken.
-/

namespace Go.Den

open Go.RowKit
noncomputable section
def Tree.way (t : Tree VR) : List (Nat × Bool) → Option (List Bool × Value) :=
  Tree.rec (motive := fun _ => List (Nat × Bool) → Option (List Bool × Value))
    (fun a l => List.casesOn (motive := fun _ => Option (List Bool × Value)) l (some ([], a.v)) fun _ _ => none)
    (fun b _ _ iht ihf l => List.casesOn (motive := fun _ => Option (List Bool × Value)) l
      (Bool.casesOn (motive := fun _ => Option (List Bool × Value)) b (ihf []) (iht []))
      (fun p r => Nat.casesOn (motive := fun _ => Option (List Bool × Value)) p.1
        (Option.rec (motive := fun _ => Option (List Bool × Value)) none (fun q => some (b :: q.1, q.2)) (Bool.casesOn (motive := fun _ => Option (List Bool × Value)) p.2 (ihf r) (iht r)))
        (fun n => Bool.casesOn (motive := fun _ => Option (List Bool × Value)) b (ihf ((n, p.2) :: r)) (iht ((n, p.2) :: r)))))
    (fun _ => none) t
theorem Tree.way_run {v : Value} : ∀ {t : Tree VR} {l : List (Nat × Bool)} {cs : List Bool}, t.way l = some (cs, v) → cs = l.map (·.2) → ∃ r, t.run = some r ∧ r.v = v := by
  intro t
  induction t with
  | leaf a =>
    intro l cs h _
    cases l with
    | nil => cases h; exact ⟨a, rfl, rfl⟩
    | cons _ _ => cases h
  | br b x y ihx ihy =>
    intro l cs h he
    cases l with
    | nil =>
      change Bool.casesOn (motive := fun _ => Option (List Bool × Value)) b (y.way []) (x.way []) = some (cs, v) at h
      cases b
      · exact ihy h he
      · exact ihx h he
    | cons p r =>
      obtain ⟨k, c⟩ := p
      cases k with
      | succ n =>
        change Bool.casesOn (motive := fun _ => Option (List Bool × Value)) b (y.way ((n, c) :: r)) (x.way ((n, c) :: r)) = some (cs, v) at h
        cases b
        · exact ihy h he
        · exact ihx h he
      | zero =>
        change Option.rec (motive := fun _ => Option (List Bool × Value)) none (fun p => some (b :: p.1, p.2)) (Bool.casesOn (motive := fun _ => Option (List Bool × Value)) c (y.way r) (x.way r)) = some (cs, v) at h
        cases c
        · cases hp : y.way r with
          | none => simp only [hp] at h; cases h
          | some p =>
            simp only [hp] at h
            cases h
            obtain ⟨h1, h2⟩ := List.cons.inj he
            subst h1
            exact ihy (by rw [hp]) h2
        · cases hp : x.way r with
          | none => simp only [hp] at h; cases h
          | some p =>
            simp only [hp] at h
            cases h
            obtain ⟨h1, h2⟩ := List.cons.inj he
            subst h1
            exact ihx (by rw [hp]) h2
  | fail => intro l cs h _; cases h
theorem Tree.way_holds {v : Value} {t : Tree VR} {l : List (Nat × Bool)} {cs : List Bool} (h : t.way l = some (cs, v)) (he : cs = l.map (·.2)) : t.holds fun r => r.v = v := by
  obtain ⟨r, h1, h2⟩ := Tree.way_run h he
  exact Tree.holds_in h1 h2
end

end Go.Den


/-
  Readings: May, print4, split, parse4.
-/


namespace Go.Proofs.YtmfdnbjmfgljlaaGreatDoor

open Go.Den Go.RowKit
noncomputable section
set_option maxRecDepth 100000

set_option linter.unusedSectionVars false

variable [Inhabited Root]

theorem may0_vc (hR : Ra) (X : Hh) (l : List UInt8) (Q : Value → Prop) : ((ev (envA hR X) 80).call [] 11 #[adr false l] [] B0).holds (fun r => Q r.v) = (bcase
  (bt l 0 == bt l 0 &&
    (bt l 1 == bt l 1 &&
      (bt l 2 == bt l 2 &&
        (bt l 3 == bt l 3 &&
          (bt l 4 == 0 &&
            (bt l 5 == 0 &&
              (bt l 6 == 0 &&
                (bt l 7 == 0 &&
                  (bt l 8 == 0 &&
                    (bt l 9 == 0 &&
                      (bt l 10 == 0 &&
                        (bt l 11 == 0 &&
                          (bt l 12 == 0 && (bt l 13 == 0 && (bt l 14 == 0 && (bt l 15 == 0 && true))))))))))))))))
  (Q (Value.bool true)) (Q (Value.bool false))) := by kernel_rfl
theorem may1_vc (hR : Ra) (X : Hh) (l : List UInt8) (Q : Value → Prop) : ((ev (envA hR X) 80).call [] 11 #[adr true l] [] B0).holds (fun r => Q r.v) = (Q (Value.bool true)) := by kernel_rfl
theorem refMay0_vc (hR : Ra) (X : Hh) (l : List UInt8) (Q : Value → Prop) : ((ev (envA hR X) 80).call [] 12 #[adr false l] [] B0).holds (fun r => Q r.v) = (bcase (bt l 4 != 0) (Q (Value.bool false))
  (bcase (bt l 5 != 0) (Q (Value.bool false))
    (bcase (bt l 6 != 0) (Q (Value.bool false))
      (bcase (bt l 7 != 0) (Q (Value.bool false))
        (bcase (bt l 8 != 0) (Q (Value.bool false))
          (bcase (bt l 9 != 0) (Q (Value.bool false))
            (bcase (bt l 10 != 0) (Q (Value.bool false))
              (bcase (bt l 11 != 0) (Q (Value.bool false))
                (bcase (bt l 12 != 0) (Q (Value.bool false))
                  (bcase (bt l 13 != 0) (Q (Value.bool false))
                    (bcase (bt l 14 != 0) (Q (Value.bool false))
                      (bcase (bt l 15 != 0) (Q (Value.bool false)) (Q (Value.bool true)))))))))))))) := by kernel_rfl
theorem refMay1_vc (hR : Ra) (X : Hh) (l : List UInt8) (Q : Value → Prop) : ((ev (envA hR X) 80).call [] 12 #[adr true l] [] B0).holds (fun r => Q r.v) = (Q (Value.bool true)) := by kernel_rfl
theorem print4_vc (hR : Ra) (X : Hh) (l : List UInt8) (Q : Value → Prop) : ((ev (envA hR X) 80).call [] 21 #[arr l] [] B0).holds (fun r => Q r.v) = (bcase (decide (IntKind.wrap IntKind.u64 (bt l 0) ≤ 18446744073709551615))
  (bcase (decide (IntKind.wrap IntKind.u64 (bt l 1) ≤ 18446744073709551615))
    (bcase (decide (IntKind.wrap IntKind.u64 (bt l 2) ≤ 18446744073709551615))
      (bcase (decide (IntKind.wrap IntKind.u64 (bt l 3) ≤ 18446744073709551615))
        (bcase
          (decide
            (ByteArray.size
                (Hh.jn X
                  [Value.string (tx (IntKind.wrap IntKind.u64 (bt l 0))),
                    Value.string (tx (IntKind.wrap IntKind.u64 (bt l 1))),
                    Value.string (tx (IntKind.wrap IntKind.u64 (bt l 2))),
                    Value.string (tx (IntKind.wrap IntKind.u64 (bt l 3)))]
                  { data := { toList := [46] } }) ≤
              140737488355328))
          (Q
            (Value.string
              (Hh.jn X
                [Value.string (tx (IntKind.wrap IntKind.u64 (bt l 0))),
                  Value.string (tx (IntKind.wrap IntKind.u64 (bt l 1))),
                  Value.string (tx (IntKind.wrap IntKind.u64 (bt l 2))),
                  Value.string (tx (IntKind.wrap IntKind.u64 (bt l 3)))]
                { data := { toList := [46] } })))
          False)
        False)
      False)
    False)
  False) := by kernel_rfl
def anK0 (l : List UInt8) : Bool := allV isB8 [Value.int IntKind.u8 (bt l 0), Value.int IntKind.u8 (bt l 1)]
def anK1 (X : Hh) (l : List UInt8) : Bool := decide (3 ≤ (↑(ByteArray.size (Hh.hx X (bytesIn [Value.int IntKind.u8 (bt l 0), Value.int IntKind.u8 (bt l 1)]))) : Int)) && true
def anK2 (X : Hh) (l : List UInt8) : Bool := decide (3 ≤ (↑(ByteArray.size (Hh.hx X (bytesIn [Value.int IntKind.u8 (bt l 0), Value.int IntKind.u8 (bt l 1)]))) : Int))
def anK3 (X : Hh) (l : List UInt8) : Bool := decide ((↑(ByteArray.size (Hh.tl X (ByteArray.extract (Hh.hx X (bytesIn [Value.int IntKind.u8 (bt l 0), Value.int IntKind.u8 (bt l 1)])) 0 3) 48) + ByteArray.size (ByteArray.extract (Hh.hx X (bytesIn [Value.int IntKind.u8 (bt l 0), Value.int IntKind.u8 (bt l 1)])) 3 (ByteArray.size (Hh.hx X (bytesIn [Value.int IntKind.u8 (bt l 0), Value.int IntKind.u8 (bt l 1)]))))) : Int) ≤ 9223372036854775807)
def anK4 (l : List UInt8) : Bool := allV isB8 [Value.int IntKind.u8 (bt l 2), Value.int IntKind.u8 (bt l 3)]
def anK5 (X : Hh) (l : List UInt8) : Bool := decide (3 ≤ (↑(ByteArray.size (Hh.hx X (bytesIn [Value.int IntKind.u8 (bt l 2), Value.int IntKind.u8 (bt l 3)]))) : Int)) && true
def anK6 (X : Hh) (l : List UInt8) : Bool := decide (3 ≤ (↑(ByteArray.size (Hh.hx X (bytesIn [Value.int IntKind.u8 (bt l 2), Value.int IntKind.u8 (bt l 3)]))) : Int))
def anK7 (X : Hh) (l : List UInt8) : Bool := decide ((↑(ByteArray.size (Hh.tl X (ByteArray.extract (Hh.hx X (bytesIn [Value.int IntKind.u8 (bt l 2), Value.int IntKind.u8 (bt l 3)])) 0 3) 48) + ByteArray.size (ByteArray.extract (Hh.hx X (bytesIn [Value.int IntKind.u8 (bt l 2), Value.int IntKind.u8 (bt l 3)])) 3 (ByteArray.size (Hh.hx X (bytesIn [Value.int IntKind.u8 (bt l 2), Value.int IntKind.u8 (bt l 3)]))))) : Int) ≤ 9223372036854775807)
def anK8 (l : List UInt8) : Bool := allV isB8 [Value.int IntKind.u8 (bt l 4), Value.int IntKind.u8 (bt l 5)]
def anK9 (X : Hh) (l : List UInt8) : Bool := decide (3 ≤ (↑(ByteArray.size (Hh.hx X (bytesIn [Value.int IntKind.u8 (bt l 4), Value.int IntKind.u8 (bt l 5)]))) : Int)) && true
def anK10 (X : Hh) (l : List UInt8) : Bool := decide (3 ≤ (↑(ByteArray.size (Hh.hx X (bytesIn [Value.int IntKind.u8 (bt l 4), Value.int IntKind.u8 (bt l 5)]))) : Int))
def anK11 (X : Hh) (l : List UInt8) : Bool := decide ((↑(ByteArray.size (Hh.tl X (ByteArray.extract (Hh.hx X (bytesIn [Value.int IntKind.u8 (bt l 4), Value.int IntKind.u8 (bt l 5)])) 0 3) 48) + ByteArray.size (ByteArray.extract (Hh.hx X (bytesIn [Value.int IntKind.u8 (bt l 4), Value.int IntKind.u8 (bt l 5)])) 3 (ByteArray.size (Hh.hx X (bytesIn [Value.int IntKind.u8 (bt l 4), Value.int IntKind.u8 (bt l 5)]))))) : Int) ≤ 9223372036854775807)
def anK12 (l : List UInt8) : Bool := allV isB8 [Value.int IntKind.u8 (bt l 6), Value.int IntKind.u8 (bt l 7)]
def anK13 (X : Hh) (l : List UInt8) : Bool := decide (3 ≤ (↑(ByteArray.size (Hh.hx X (bytesIn [Value.int IntKind.u8 (bt l 6), Value.int IntKind.u8 (bt l 7)]))) : Int)) && true
def anK14 (X : Hh) (l : List UInt8) : Bool := decide (3 ≤ (↑(ByteArray.size (Hh.hx X (bytesIn [Value.int IntKind.u8 (bt l 6), Value.int IntKind.u8 (bt l 7)]))) : Int))
def anK15 (X : Hh) (l : List UInt8) : Bool := decide ((↑(ByteArray.size (Hh.tl X (ByteArray.extract (Hh.hx X (bytesIn [Value.int IntKind.u8 (bt l 6), Value.int IntKind.u8 (bt l 7)])) 0 3) 48) + ByteArray.size (ByteArray.extract (Hh.hx X (bytesIn [Value.int IntKind.u8 (bt l 6), Value.int IntKind.u8 (bt l 7)])) 3 (ByteArray.size (Hh.hx X (bytesIn [Value.int IntKind.u8 (bt l 6), Value.int IntKind.u8 (bt l 7)]))))) : Int) ≤ 9223372036854775807)
def anK16 (l : List UInt8) : Bool := allV isB8 [Value.int IntKind.u8 (bt l 8), Value.int IntKind.u8 (bt l 9)]
def anK17 (X : Hh) (l : List UInt8) : Bool := decide (3 ≤ (↑(ByteArray.size (Hh.hx X (bytesIn [Value.int IntKind.u8 (bt l 8), Value.int IntKind.u8 (bt l 9)]))) : Int)) && true
def anK18 (X : Hh) (l : List UInt8) : Bool := decide (3 ≤ (↑(ByteArray.size (Hh.hx X (bytesIn [Value.int IntKind.u8 (bt l 8), Value.int IntKind.u8 (bt l 9)]))) : Int))
def anK19 (X : Hh) (l : List UInt8) : Bool := decide ((↑(ByteArray.size (Hh.tl X (ByteArray.extract (Hh.hx X (bytesIn [Value.int IntKind.u8 (bt l 8), Value.int IntKind.u8 (bt l 9)])) 0 3) 48) + ByteArray.size (ByteArray.extract (Hh.hx X (bytesIn [Value.int IntKind.u8 (bt l 8), Value.int IntKind.u8 (bt l 9)])) 3 (ByteArray.size (Hh.hx X (bytesIn [Value.int IntKind.u8 (bt l 8), Value.int IntKind.u8 (bt l 9)]))))) : Int) ≤ 9223372036854775807)
def anK20 (l : List UInt8) : Bool := allV isB8 [Value.int IntKind.u8 (bt l 10), Value.int IntKind.u8 (bt l 11)]
def anK21 (X : Hh) (l : List UInt8) : Bool := decide (3 ≤ (↑(ByteArray.size (Hh.hx X (bytesIn [Value.int IntKind.u8 (bt l 10), Value.int IntKind.u8 (bt l 11)]))) : Int)) && true
def anK22 (X : Hh) (l : List UInt8) : Bool := decide (3 ≤ (↑(ByteArray.size (Hh.hx X (bytesIn [Value.int IntKind.u8 (bt l 10), Value.int IntKind.u8 (bt l 11)]))) : Int))
def anK23 (X : Hh) (l : List UInt8) : Bool := decide ((↑(ByteArray.size (Hh.tl X (ByteArray.extract (Hh.hx X (bytesIn [Value.int IntKind.u8 (bt l 10), Value.int IntKind.u8 (bt l 11)])) 0 3) 48) + ByteArray.size (ByteArray.extract (Hh.hx X (bytesIn [Value.int IntKind.u8 (bt l 10), Value.int IntKind.u8 (bt l 11)])) 3 (ByteArray.size (Hh.hx X (bytesIn [Value.int IntKind.u8 (bt l 10), Value.int IntKind.u8 (bt l 11)]))))) : Int) ≤ 9223372036854775807)
def anK24 (l : List UInt8) : Bool := allV isB8 [Value.int IntKind.u8 (bt l 12), Value.int IntKind.u8 (bt l 13)]
def anK25 (X : Hh) (l : List UInt8) : Bool := decide (3 ≤ (↑(ByteArray.size (Hh.hx X (bytesIn [Value.int IntKind.u8 (bt l 12), Value.int IntKind.u8 (bt l 13)]))) : Int)) && true
def anK26 (X : Hh) (l : List UInt8) : Bool := decide (3 ≤ (↑(ByteArray.size (Hh.hx X (bytesIn [Value.int IntKind.u8 (bt l 12), Value.int IntKind.u8 (bt l 13)]))) : Int))
def anK27 (X : Hh) (l : List UInt8) : Bool := decide ((↑(ByteArray.size (Hh.tl X (ByteArray.extract (Hh.hx X (bytesIn [Value.int IntKind.u8 (bt l 12), Value.int IntKind.u8 (bt l 13)])) 0 3) 48) + ByteArray.size (ByteArray.extract (Hh.hx X (bytesIn [Value.int IntKind.u8 (bt l 12), Value.int IntKind.u8 (bt l 13)])) 3 (ByteArray.size (Hh.hx X (bytesIn [Value.int IntKind.u8 (bt l 12), Value.int IntKind.u8 (bt l 13)]))))) : Int) ≤ 9223372036854775807)
def anK28 (l : List UInt8) : Bool := allV isB8 [Value.int IntKind.u8 (bt l 14), Value.int IntKind.u8 (bt l 15)]
def anK29 (X : Hh) (l : List UInt8) : Bool := decide (3 ≤ (↑(ByteArray.size (Hh.hx X (bytesIn [Value.int IntKind.u8 (bt l 14), Value.int IntKind.u8 (bt l 15)]))) : Int)) && true
def anK30 (X : Hh) (l : List UInt8) : Bool := decide (3 ≤ (↑(ByteArray.size (Hh.hx X (bytesIn [Value.int IntKind.u8 (bt l 14), Value.int IntKind.u8 (bt l 15)]))) : Int))
def anK31 (X : Hh) (l : List UInt8) : Bool := decide ((↑(ByteArray.size (Hh.tl X (ByteArray.extract (Hh.hx X (bytesIn [Value.int IntKind.u8 (bt l 14), Value.int IntKind.u8 (bt l 15)])) 0 3) 48) + ByteArray.size (ByteArray.extract (Hh.hx X (bytesIn [Value.int IntKind.u8 (bt l 14), Value.int IntKind.u8 (bt l 15)])) 3 (ByteArray.size (Hh.hx X (bytesIn [Value.int IntKind.u8 (bt l 14), Value.int IntKind.u8 (bt l 15)]))))) : Int) ≤ 9223372036854775807)
def anK32 (s : ByteArray) : Bool := decide (ByteArray.size s ≤ 1048576)
def anK33 (s : ByteArray) : Bool := decide (List.length (pcs s 46) = 4)
def anK34 (s : ByteArray) : Bool := (↑(List.length (pcs s 46)) : Int) != 4
def anK35 (s : ByteArray) : Bool := decide (uuV (nth (pcs s 46) 0) > 255)
def anK36 (s : ByteArray) : Bool := decide (uuV (nth (pcs s 46) 1) > 255)
def anK37 (s : ByteArray) : Bool := decide (uuV (nth (pcs s 46) 2) > 255)
def anK38 (s : ByteArray) : Bool := decide (uuV (nth (pcs s 46) 3) > 255)
def anR0 (hR : Ra) (X : Hh) (l : List UInt8) : Tree VR := ((ev (envA hR X) 80).call [] 43 #[arr l] [] B0)
def anR1 (hR : Ra) (X : Hh) (s : ByteArray) : Tree VR := ((ev (envA hR X) 80).call [] 26 #[.string s] [] B0)
theorem split_way (hR : Ra) (X : Hh) (l : List UInt8) : (anR0 hR X l).way [(16, true), (5, true), (5, true), (1, true), (18, true), (5, true), (5, true), (1, true), (18, true), (5, true), (5, true), (1, true), (18, true), (5, true), (5, true), (1, true), (18, true), (5, true), (5, true), (1, true), (18, true), (5, true), (5, true), (1, true), (18, true), (5, true), (5, true), (1, true), (18, true), (5, true), (5, true), (1, true)] = some ([anK0 l, anK1 X l, anK2 X l, anK3 X l, anK4 l, anK5 X l, anK6 X l, anK7 X l, anK8 l, anK9 X l, anK10 X l, anK11 X l, anK12 l, anK13 X l, anK14 X l, anK15 X l, anK16 l, anK17 X l, anK18 X l, anK19 X l, anK20 l, anK21 X l, anK22 X l, anK23 X l, anK24 l, anK25 X l, anK26 X l, anK27 X l, anK28 l, anK29 X l, anK30 X l, anK31 X l], Value.agg
  {
    toList :=
      [Value.string
          (Hh.tl X
              (ByteArray.extract (Hh.hx X (bytesIn [Value.int IntKind.u8 (bt l 0), Value.int IntKind.u8 (bt l 1)])) 0 3)
              48 ++
            ByteArray.extract (Hh.hx X (bytesIn [Value.int IntKind.u8 (bt l 0), Value.int IntKind.u8 (bt l 1)])) 3
              (ByteArray.size (Hh.hx X (bytesIn [Value.int IntKind.u8 (bt l 0), Value.int IntKind.u8 (bt l 1)])))),
        Value.string
          (Hh.tl X
              (ByteArray.extract (Hh.hx X (bytesIn [Value.int IntKind.u8 (bt l 2), Value.int IntKind.u8 (bt l 3)])) 0 3)
              48 ++
            ByteArray.extract (Hh.hx X (bytesIn [Value.int IntKind.u8 (bt l 2), Value.int IntKind.u8 (bt l 3)])) 3
              (ByteArray.size (Hh.hx X (bytesIn [Value.int IntKind.u8 (bt l 2), Value.int IntKind.u8 (bt l 3)])))),
        Value.string
          (Hh.tl X
              (ByteArray.extract (Hh.hx X (bytesIn [Value.int IntKind.u8 (bt l 4), Value.int IntKind.u8 (bt l 5)])) 0 3)
              48 ++
            ByteArray.extract (Hh.hx X (bytesIn [Value.int IntKind.u8 (bt l 4), Value.int IntKind.u8 (bt l 5)])) 3
              (ByteArray.size (Hh.hx X (bytesIn [Value.int IntKind.u8 (bt l 4), Value.int IntKind.u8 (bt l 5)])))),
        Value.string
          (Hh.tl X
              (ByteArray.extract (Hh.hx X (bytesIn [Value.int IntKind.u8 (bt l 6), Value.int IntKind.u8 (bt l 7)])) 0 3)
              48 ++
            ByteArray.extract (Hh.hx X (bytesIn [Value.int IntKind.u8 (bt l 6), Value.int IntKind.u8 (bt l 7)])) 3
              (ByteArray.size (Hh.hx X (bytesIn [Value.int IntKind.u8 (bt l 6), Value.int IntKind.u8 (bt l 7)])))),
        Value.string
          (Hh.tl X
              (ByteArray.extract (Hh.hx X (bytesIn [Value.int IntKind.u8 (bt l 8), Value.int IntKind.u8 (bt l 9)])) 0 3)
              48 ++
            ByteArray.extract (Hh.hx X (bytesIn [Value.int IntKind.u8 (bt l 8), Value.int IntKind.u8 (bt l 9)])) 3
              (ByteArray.size (Hh.hx X (bytesIn [Value.int IntKind.u8 (bt l 8), Value.int IntKind.u8 (bt l 9)])))),
        Value.string
          (Hh.tl X
              (ByteArray.extract (Hh.hx X (bytesIn [Value.int IntKind.u8 (bt l 10), Value.int IntKind.u8 (bt l 11)])) 0
                3)
              48 ++
            ByteArray.extract (Hh.hx X (bytesIn [Value.int IntKind.u8 (bt l 10), Value.int IntKind.u8 (bt l 11)])) 3
              (ByteArray.size (Hh.hx X (bytesIn [Value.int IntKind.u8 (bt l 10), Value.int IntKind.u8 (bt l 11)])))),
        Value.string
          (Hh.tl X
              (ByteArray.extract (Hh.hx X (bytesIn [Value.int IntKind.u8 (bt l 12), Value.int IntKind.u8 (bt l 13)])) 0
                3)
              48 ++
            ByteArray.extract (Hh.hx X (bytesIn [Value.int IntKind.u8 (bt l 12), Value.int IntKind.u8 (bt l 13)])) 3
              (ByteArray.size (Hh.hx X (bytesIn [Value.int IntKind.u8 (bt l 12), Value.int IntKind.u8 (bt l 13)])))),
        Value.string
          (Hh.tl X
              (ByteArray.extract (Hh.hx X (bytesIn [Value.int IntKind.u8 (bt l 14), Value.int IntKind.u8 (bt l 15)])) 0
                3)
              48 ++
            ByteArray.extract (Hh.hx X (bytesIn [Value.int IntKind.u8 (bt l 14), Value.int IntKind.u8 (bt l 15)])) 3
              (ByteArray.size (Hh.hx X (bytesIn [Value.int IntKind.u8 (bt l 14), Value.int IntKind.u8 (bt l 15)]))))] }) := by kernel_rfl
theorem p4n_way (hR : Ra) (X : Hh) (s : ByteArray) : (anR1 hR X s).way [(4, true), (0, false), (3, true)] = some ([anK32 s, anK33 s, anK34 s], Value.tuple
  {
    toList :=
      [Value.agg
          {
            toList :=
              [Value.bool false, Value.int IntKind.u8 0, Value.int IntKind.u8 0, Value.int IntKind.u8 0,
                Value.int IntKind.u8 0, Value.int IntKind.u8 0, Value.int IntKind.u8 0, Value.int IntKind.u8 0,
                Value.int IntKind.u8 0, Value.int IntKind.u8 0, Value.int IntKind.u8 0, Value.int IntKind.u8 0,
                Value.int IntKind.u8 0, Value.int IntKind.u8 0, Value.int IntKind.u8 0, Value.int IntKind.u8 0,
                Value.int IntKind.u8 0] },
        Value.bool false] }) := by kernel_rfl
theorem p4b0_way (hR : Ra) (X : Hh) (s : ByteArray) : (anR1 hR X s).way [(4, true), (0, true), (22, false)] = some ([anK32 s, anK33 s, uuK (nth (pcs s 46) 0)], Value.tuple
  {
    toList :=
      [Value.agg
          {
            toList :=
              [Value.bool false, Value.int IntKind.u8 0, Value.int IntKind.u8 0, Value.int IntKind.u8 0,
                Value.int IntKind.u8 0, Value.int IntKind.u8 0, Value.int IntKind.u8 0, Value.int IntKind.u8 0,
                Value.int IntKind.u8 0, Value.int IntKind.u8 0, Value.int IntKind.u8 0, Value.int IntKind.u8 0,
                Value.int IntKind.u8 0, Value.int IntKind.u8 0, Value.int IntKind.u8 0, Value.int IntKind.u8 0,
                Value.int IntKind.u8 0] },
        Value.bool false] }) := by kernel_rfl
theorem p4g0_way (hR : Ra) (X : Hh) (s : ByteArray) : (anR1 hR X s).way [(4, true), (0, true), (22, true), (13, true)] = some ([anK32 s, anK33 s, uuK (nth (pcs s 46) 0), anK35 s], Value.tuple
  {
    toList :=
      [Value.agg
          {
            toList :=
              [Value.bool false, Value.int IntKind.u8 0, Value.int IntKind.u8 0, Value.int IntKind.u8 0,
                Value.int IntKind.u8 0, Value.int IntKind.u8 0, Value.int IntKind.u8 0, Value.int IntKind.u8 0,
                Value.int IntKind.u8 0, Value.int IntKind.u8 0, Value.int IntKind.u8 0, Value.int IntKind.u8 0,
                Value.int IntKind.u8 0, Value.int IntKind.u8 0, Value.int IntKind.u8 0, Value.int IntKind.u8 0,
                Value.int IntKind.u8 0] },
        Value.bool false] }) := by kernel_rfl
theorem p4b1_way (hR : Ra) (X : Hh) (s : ByteArray) : (anR1 hR X s).way [(4, true), (0, true), (22, true), (13, false), (23, false)] = some ([anK32 s, anK33 s, uuK (nth (pcs s 46) 0), anK35 s, uuK (nth (pcs s 46) 1)], Value.tuple
  {
    toList :=
      [Value.agg
          {
            toList :=
              [Value.bool false, Value.int IntKind.u8 0, Value.int IntKind.u8 0, Value.int IntKind.u8 0,
                Value.int IntKind.u8 0, Value.int IntKind.u8 0, Value.int IntKind.u8 0, Value.int IntKind.u8 0,
                Value.int IntKind.u8 0, Value.int IntKind.u8 0, Value.int IntKind.u8 0, Value.int IntKind.u8 0,
                Value.int IntKind.u8 0, Value.int IntKind.u8 0, Value.int IntKind.u8 0, Value.int IntKind.u8 0,
                Value.int IntKind.u8 0] },
        Value.bool false] }) := by kernel_rfl
theorem p4g1_way (hR : Ra) (X : Hh) (s : ByteArray) : (anR1 hR X s).way [(4, true), (0, true), (22, true), (13, false), (23, true), (13, true)] = some ([anK32 s, anK33 s, uuK (nth (pcs s 46) 0), anK35 s, uuK (nth (pcs s 46) 1), anK36 s], Value.tuple
  {
    toList :=
      [Value.agg
          {
            toList :=
              [Value.bool false, Value.int IntKind.u8 0, Value.int IntKind.u8 0, Value.int IntKind.u8 0,
                Value.int IntKind.u8 0, Value.int IntKind.u8 0, Value.int IntKind.u8 0, Value.int IntKind.u8 0,
                Value.int IntKind.u8 0, Value.int IntKind.u8 0, Value.int IntKind.u8 0, Value.int IntKind.u8 0,
                Value.int IntKind.u8 0, Value.int IntKind.u8 0, Value.int IntKind.u8 0, Value.int IntKind.u8 0,
                Value.int IntKind.u8 0] },
        Value.bool false] }) := by kernel_rfl
theorem p4b2_way (hR : Ra) (X : Hh) (s : ByteArray) : (anR1 hR X s).way [(4, true), (0, true), (22, true), (13, false), (23, true), (13, false), (23, false)] = some ([anK32 s, anK33 s, uuK (nth (pcs s 46) 0), anK35 s, uuK (nth (pcs s 46) 1), anK36 s, uuK (nth (pcs s 46) 2)], Value.tuple
  {
    toList :=
      [Value.agg
          {
            toList :=
              [Value.bool false, Value.int IntKind.u8 0, Value.int IntKind.u8 0, Value.int IntKind.u8 0,
                Value.int IntKind.u8 0, Value.int IntKind.u8 0, Value.int IntKind.u8 0, Value.int IntKind.u8 0,
                Value.int IntKind.u8 0, Value.int IntKind.u8 0, Value.int IntKind.u8 0, Value.int IntKind.u8 0,
                Value.int IntKind.u8 0, Value.int IntKind.u8 0, Value.int IntKind.u8 0, Value.int IntKind.u8 0,
                Value.int IntKind.u8 0] },
        Value.bool false] }) := by kernel_rfl
theorem p4g2_way (hR : Ra) (X : Hh) (s : ByteArray) : (anR1 hR X s).way [(4, true), (0, true), (22, true), (13, false), (23, true), (13, false), (23, true), (13, true)] = some ([anK32 s, anK33 s, uuK (nth (pcs s 46) 0), anK35 s, uuK (nth (pcs s 46) 1), anK36 s, uuK (nth (pcs s 46) 2), anK37 s], Value.tuple
  {
    toList :=
      [Value.agg
          {
            toList :=
              [Value.bool false, Value.int IntKind.u8 0, Value.int IntKind.u8 0, Value.int IntKind.u8 0,
                Value.int IntKind.u8 0, Value.int IntKind.u8 0, Value.int IntKind.u8 0, Value.int IntKind.u8 0,
                Value.int IntKind.u8 0, Value.int IntKind.u8 0, Value.int IntKind.u8 0, Value.int IntKind.u8 0,
                Value.int IntKind.u8 0, Value.int IntKind.u8 0, Value.int IntKind.u8 0, Value.int IntKind.u8 0,
                Value.int IntKind.u8 0] },
        Value.bool false] }) := by kernel_rfl
theorem p4b3_way (hR : Ra) (X : Hh) (s : ByteArray) : (anR1 hR X s).way [(4, true), (0, true), (22, true), (13, false), (23, true), (13, false), (23, true), (13, false), (23, false)] = some ([anK32 s, anK33 s, uuK (nth (pcs s 46) 0), anK35 s, uuK (nth (pcs s 46) 1), anK36 s, uuK (nth (pcs s 46) 2), anK37 s, uuK (nth (pcs s 46) 3)], Value.tuple
  {
    toList :=
      [Value.agg
          {
            toList :=
              [Value.bool false, Value.int IntKind.u8 0, Value.int IntKind.u8 0, Value.int IntKind.u8 0,
                Value.int IntKind.u8 0, Value.int IntKind.u8 0, Value.int IntKind.u8 0, Value.int IntKind.u8 0,
                Value.int IntKind.u8 0, Value.int IntKind.u8 0, Value.int IntKind.u8 0, Value.int IntKind.u8 0,
                Value.int IntKind.u8 0, Value.int IntKind.u8 0, Value.int IntKind.u8 0, Value.int IntKind.u8 0,
                Value.int IntKind.u8 0] },
        Value.bool false] }) := by kernel_rfl
theorem p4g3_way (hR : Ra) (X : Hh) (s : ByteArray) : (anR1 hR X s).way [(4, true), (0, true), (22, true), (13, false), (23, true), (13, false), (23, true), (13, false), (23, true), (13, true)] = some ([anK32 s, anK33 s, uuK (nth (pcs s 46) 0), anK35 s, uuK (nth (pcs s 46) 1), anK36 s, uuK (nth (pcs s 46) 2), anK37 s, uuK (nth (pcs s 46) 3), anK38 s], Value.tuple
  {
    toList :=
      [Value.agg
          {
            toList :=
              [Value.bool false, Value.int IntKind.u8 0, Value.int IntKind.u8 0, Value.int IntKind.u8 0,
                Value.int IntKind.u8 0, Value.int IntKind.u8 0, Value.int IntKind.u8 0, Value.int IntKind.u8 0,
                Value.int IntKind.u8 0, Value.int IntKind.u8 0, Value.int IntKind.u8 0, Value.int IntKind.u8 0,
                Value.int IntKind.u8 0, Value.int IntKind.u8 0, Value.int IntKind.u8 0, Value.int IntKind.u8 0,
                Value.int IntKind.u8 0] },
        Value.bool false] }) := by kernel_rfl
theorem p4k_way (hR : Ra) (X : Hh) (s : ByteArray) : (anR1 hR X s).way [(4, true), (0, true), (22, true), (13, false), (23, true), (13, false), (23, true), (13, false), (23, true), (13, false)] = some ([anK32 s, anK33 s, uuK (nth (pcs s 46) 0), anK35 s, uuK (nth (pcs s 46) 1), anK36 s, uuK (nth (pcs s 46) 2), anK37 s, uuK (nth (pcs s 46) 3), anK38 s], Value.tuple
  {
    toList :=
      [Value.agg
          {
            toList :=
              [Value.bool false, Value.int IntKind.u8 (IntKind.wrap IntKind.u8 (uuV (nth (pcs s 46) 0))),
                Value.int IntKind.u8 (IntKind.wrap IntKind.u8 (uuV (nth (pcs s 46) 1))),
                Value.int IntKind.u8 (IntKind.wrap IntKind.u8 (uuV (nth (pcs s 46) 2))),
                Value.int IntKind.u8 (IntKind.wrap IntKind.u8 (uuV (nth (pcs s 46) 3))), Value.int IntKind.u8 0,
                Value.int IntKind.u8 0, Value.int IntKind.u8 0, Value.int IntKind.u8 0, Value.int IntKind.u8 0,
                Value.int IntKind.u8 0, Value.int IntKind.u8 0, Value.int IntKind.u8 0, Value.int IntKind.u8 0,
                Value.int IntKind.u8 0, Value.int IntKind.u8 0, Value.int IntKind.u8 0] },
        Value.bool true] }) := by kernel_rfl
theorem kA (l : List UInt8) (i j : Nat) : allV isB8 [.int .u8 (bt l i), .int .u8 (bt l j)] = true := by
  rw [allV_eq, List.all_eq_true]
  intro v hv
  simp only [List.mem_cons, List.not_mem_nil, or_false] at hv
  rcases hv with rfl | rfl <;> exact isB8_bt l _
theorem hx_two (X : Hh) (l : List UInt8) (i j : Nat) : X.hx (bytesIn [.int .u8 (bt l i), .int .u8 (bt l j)]) = mkB (hexL [l.getD i 0, l.getD j 0]) := by
  rw [X.hxE]; simp only [bytesIn, List.map_cons, List.map_nil, byteOf_bt]; rfl
theorem hx_size (X : Hh) (l : List UInt8) (i j : Nat) : (X.hx (bytesIn [.int .u8 (bt l i), .int .u8 (bt l j)])).size = 4 := by
  rw [hx_two, size_mkB, hexL_len]; rfl
theorem kC (X : Hh) (l : List UInt8) (i j : Nat) : decide (3 ≤ (((X.hx (bytesIn [.int .u8 (bt l i), .int .u8 (bt l j)])).size : Nat) : Int)) = true := by
  rw [hx_size]; rfl
theorem tl_size (X : Hh) (s : ByteArray) (c : UInt8) : (X.tl s c).size ≤ s.size := by
  rw [X.tlE]; unfold trimL
  rw [size_mkB, ← size_data s]
  exact (List.dropWhile_sublist _).length_le
theorem kD (X : Hh) (l : List UInt8) (i j : Nat) : decide ((((X.tl (ByteArray.extract (X.hx (bytesIn [.int .u8 (bt l i), .int .u8 (bt l j)])) 0 3) 48).size + (ByteArray.extract (X.hx (bytesIn [.int .u8 (bt l i), .int .u8 (bt l j)])) 3 (X.hx (bytesIn [.int .u8 (bt l i), .int .u8 (bt l j)])).size).size : Nat) : Int) ≤ 9223372036854775807) = true := by
  have h1 := tl_size X (ByteArray.extract (X.hx (bytesIn [.int .u8 (bt l i), .int .u8 (bt l j)])) 0 3) 48
  have h2 := hx_size X l i j
  rw [ByteArray.size_extract] at h1
  rw [decide_eq_true_eq, ByteArray.size_extract]
  omega
theorem gp_eq (X : Hh) (l : List UInt8) (i j : Nat) : X.tl (ByteArray.extract (X.hx (bytesIn [.int .u8 (bt l i), .int .u8 (bt l j)])) 0 3) 48 ++ ByteArray.extract (X.hx (bytesIn [.int .u8 (bt l i), .int .u8 (bt l j)])) 3 (X.hx (bytesIn [.int .u8 (bt l i), .int .u8 (bt l j)])).size = X.gp (l.getD i 0) (l.getD j 0) := by
  rw [hx_size, hx_two, X.tlE, X.gpE]
  unfold trimL
  rw [ext_mk, ext_mk, mkB_app]
  rfl
def grps8 (X : Hh) (l : List UInt8) : Value := .agg ⟨[.string (X.gp (l.getD 0 0) (l.getD 1 0)), .string (X.gp (l.getD 2 0) (l.getD 3 0)), .string (X.gp (l.getD 4 0) (l.getD 5 0)), .string (X.gp (l.getD 6 0) (l.getD 7 0)), .string (X.gp (l.getD 8 0) (l.getD 9 0)), .string (X.gp (l.getD 10 0) (l.getD 11 0)), .string (X.gp (l.getD 12 0) (l.getD 13 0)), .string (X.gp (l.getD 14 0) (l.getD 15 0))]⟩
theorem split_call (hR : Ra) (X : Hh) (l : List UInt8) (w : World) (hw : Held w) :
    Calls Tryz.prog 43 #[arr l] w fun e w' => e = .returned (grps8 X l) ∧ Below w.heap.size w w' := by
  refine calls_specK (envA hR X) hcokP 80 (v := grps8 X l) ?_ (all_bel rfl) rfl w hw
  have e := split_way hR X l
  simp only [gp_eq] at e
  exact Tree.way_holds e (by simp only [anK0, anK1, anK2, anK3, anK4, anK5, anK6, anK7, anK8, anK9, anK10, anK11, anK12, anK13, anK14, anK15, anK16, anK17, anK18, anK19, anK20, anK21, anK22, anK23, anK24, anK25, anK26, anK27, anK28, anK29, anK30, anK31, kA, kC, kD, Bool.and_true]; rfl)
theorem z8 (l : List UInt8) (i : Nat) : (bt l i == 0) = (l.getD i 0 == 0) := by
  unfold bt
  rw [Bool.eq_iff_iff, beq_iff_eq, beq_iff_eq]
  constructor
  · intro h; apply u8_eq; have : (0 : UInt8).toNat = 0 := rfl; omega
  · intro h; rw [h]; rfl
theorem may_eq {l : List UInt8} (hl : l.length = 16) : (bt l 4 == 0 && (bt l 5 == 0 && (bt l 6 == 0 && (bt l 7 == 0 && (bt l 8 == 0 && (bt l 9 == 0 && (bt l 10 == 0 && (bt l 11 == 0 && (bt l 12 == 0 && (bt l 13 == 0 && (bt l 14 == 0 && (bt l 15 == 0 && true)))))))))))) = mayL (false, l) := by
  simp only [z8]
  match l, hl with
  | [_, _, _, _, _, _, _, _, _, _, _, _, _, _, _, _], _ => rfl
theorem may_call (hR : Ra) (v : Bool) {l : List UInt8} (hl : l.length = 16) (w : World) (hw : Held w) :
    Calls Tryz.prog 11 #[adr v l] w fun e w' => e = .returned (.bool (mayL (v, l))) ∧ Below w.heap.size w w' := by
  refine calls_specK (envA hR theHh) hcokP 80 (v := .bool (mayL (v, l))) ?_ (all_bel rfl) rfl w hw
  cases v with
  | true => rw [may1_vc hR theHh l (fun v => v = .bool (mayL (true, l)))]; rfl
  | false =>
    rw [may0_vc hR theHh l (fun v => v = .bool (mayL (false, l)))]
    simp only [beq_self_eq_true, Bool.true_and]
    rw [may_eq hl]
    cases mayL (false, l) <;> rfl
theorem bne_z (b : Int) : (b != 0) = !(b == 0) := rfl
theorem refMay_call (hR : Ra) (v : Bool) {l : List UInt8} (hl : l.length = 16) (w : World) (hw : Held w) :
    Calls Tryz.prog 12 #[adr v l] w fun e w' => e = .returned (.bool (mayL (v, l))) ∧ Below w.heap.size w w' := by
  refine calls_specK (envA hR theHh) hcokP 80 (v := .bool (mayL (v, l))) ?_ (all_bel rfl) rfl w hw
  cases v with
  | true => rw [refMay1_vc hR theHh l (fun v => v = .bool (mayL (true, l)))]; rfl
  | false =>
    rw [refMay0_vc hR theHh l (fun v => v = .bool (mayL (false, l))), ← may_eq hl]
    simp only [bne_z]
    cases (bt l 4 == 0)
    · rfl
    cases (bt l 5 == 0)
    · rfl
    cases (bt l 6 == 0)
    · rfl
    cases (bt l 7 == 0)
    · rfl
    cases (bt l 8 == 0)
    · rfl
    cases (bt l 9 == 0)
    · rfl
    cases (bt l 10 == 0)
    · rfl
    cases (bt l 11 == 0)
    · rfl
    cases (bt l 12 == 0)
    · rfl
    cases (bt l 13 == 0)
    · rfl
    cases (bt l 14 == 0)
    · rfl
    cases (bt l 15 == 0) <;> rfl
theorem w64 (l : List UInt8) (i : Nat) : IntKind.wrap .u64 (bt l i) = bt l i := by
  have := bt_bd l i
  rw [IntKind.wrap_u64]; omega
theorem tx_bt (l : List UInt8) (i : Nat) : tx (bt l i) = mkB (Lib.decDigits (l.getD i 0).toNat) := by
  unfold tx bt; rw [Lib.itoa_nonneg]; rfl
theorem join4 (X : Hh) {l : List UInt8} (hl : l.length = 16) : X.jn [.string (tx (bt l 0)), .string (tx (bt l 1)), .string (tx (bt l 2)), .string (tx (bt l 3))] ⟨⟨[46]⟩⟩ = X.p4 l := by
  rw [X.jnE, X.p4E]
  simp only [tx_bt]
  unfold joinS strsIn
  simp only [List.map_cons, List.map_nil, strOf, data_mkB]
  match l, hl with
  | [a, b, c, d, _, _, _, _, _, _, _, _, _, _, _, _], _ =>
    show (⟨(Lib.join _ [46]).toArray⟩ : ByteArray) = _
    rw [jn_join]; rfl
theorem p4_short (l : List UInt8) : (p4L l).length ≤ 16 := by
  have h : ∀ (r : List UInt8), r.length ≤ 4 → (jn 46 (r.map fun b => Lib.decDigits b.toNat)).length ≤ 4 * r.length := by
    intro r
    induction r with
    | nil => intro _; simp [jn]
    | cons b r ih =>
      intro hr
      have h1 : (Lib.decDigits b.toNat).length ≤ 3 := by
        rw [Lib.decDigits_length]; have := b.toNat_lt; exact nDigits_le 2 _ (by omega)
      cases r with
      | nil => simp [jn]; omega
      | cons c r =>
        have := ih (by simp only [List.length_cons] at hr ⊢; omega)
        rw [List.map_cons, jn_cons _ (by simp), List.length_append, List.length_cons]
        simp only [List.length_cons] at this ⊢; omega
  have := h (l.take 4) (by rw [List.length_take]; omega)
  have h2 : (l.take 4).length ≤ 4 := by rw [List.length_take]; omega
  unfold p4L; omega
theorem print4_call (hR : Ra) (X : Hh) {l : List UInt8} (hl : l.length = 16) (w : World) (hw : Held w) :
    Calls Tryz.prog 21 #[arr l] w fun e w' => e = .returned (.string (X.p4 l)) ∧ Below w.heap.size w w' := by
  refine calls_specK (envA hR X) hcokP 80 (v := .string (X.p4 l)) ?_ (all_bel rfl) rfl w hw
  rw [print4_vc hR X l (fun v => v = .string (X.p4 l))]
  have k : ∀ i, decide (bt l i ≤ 18446744073709551615) = true := fun i => by have := bt_bd l i; rw [decide_eq_true_eq]; omega
  simp only [w64, k, bcase_t, join4 X hl]
  rw [X.p4E, size_mkB, decide_eq_true (by have := p4_short l; omega)]
  exact True.intro
/-- The four numbers of a text. -/
def f4K (s : ByteArray) : Bool := (fourL s.data.toList).isSome
def f4L (s : ByteArray) : List UInt8 := (fourL s.data.toList).getD []
def nv4 (s : ByteArray) (i : Nat) : Option Nat := numL 255 (nth (pcs s 46) i).data.toList
theorem num_uu (s : ByteArray) : numL 255 s.data.toList = if uuK s = true ∧ uuV s ≤ 255 then some (uuV s).toNat else none := by
  rw [← uu_num _ 255 (by omega)]
  unfold uuK uuV
  cases uuS s.data.toList with
  | none => rfl
  | some v =>
    show (if v ≤ 255 then some v.toNat else none) = _
    by_cases h : v ≤ 255
    · rw [if_pos h, if_pos ⟨rfl, h⟩]; rfl
    · rw [if_neg h, if_neg (fun k => h k.2)]
theorem four_of {s : ByteArray} (h : (pcs s 46).length = 4) : fourL s.data.toList = (nv4 s 0).bind fun a => (nv4 s 1).bind fun b => (nv4 s 2).bind fun c => (nv4 s 3).bind fun d => some [UInt8.ofNat a, UInt8.ofNat b, UInt8.ofNat c, UInt8.ofNat d] := by
  unfold fourL nv4 nth pcs at *
  rw [List.length_map] at h
  rw [if_pos h]
  generalize spl 46 s.data.toList = r at h
  match r, h with
  | [p, q, r, t], _ =>
    simp only [List.map_cons, List.map_nil, List.getD_cons_zero, List.getD_cons_succ, data_mkB, decM]
    cases numL 255 p <;> cases numL 255 q <;> cases numL 255 r <;> cases numL 255 t <;> rfl
theorem uuV_nn (s : ByteArray) : 0 ≤ uuV s := by
  unfold uuV
  cases e : uuS s.data.toList with
  | none => exact Int.le_refl _
  | some v => exact (uu_some e).2.1
theorem nv4_yes {s : ByteArray} {i : Nat} (h1 : uuK (nth (pcs s 46) i) = true) (h2 : uuV (nth (pcs s 46) i) ≤ 255) : nv4 s i = some (uuV (nth (pcs s 46) i)).toNat := by
  unfold nv4; rw [num_uu, if_pos ⟨h1, h2⟩]
theorem nv4_bad {s : ByteArray} {i : Nat} (h : uuK (nth (pcs s 46) i) = false) : nv4 s i = none := by
  unfold nv4; rw [num_uu, if_neg (by rw [h]; simp)]
theorem nv4_big {s : ByteArray} {i : Nat} (h : 255 < uuV (nth (pcs s 46) i)) : nv4 s i = none := by
  unfold nv4; rw [num_uu, if_neg (by omega)]
theorem w8 {v : Int} (h0 : 0 ≤ v) (h1 : v ≤ 255) : IntKind.wrap .u8 v = (((UInt8.ofNat v.toNat).toNat : Nat) : Int) := by
  have : (UInt8.ofNat v.toNat).toNat = v.toNat := by simp; omega
  rw [this, IntKind.wrap_u8]; omega
theorem f4_none {s : ByteArray} (h : fourL s.data.toList = none) : f4K s = false ∧ f4L s = [] := by unfold f4K f4L; rw [h]; exact ⟨rfl, rfl⟩
def vp4 (s : ByteArray) : Value := .tuple ⟨[adr false (f4L s), .bool (f4K s)]⟩
theorem vp4_none {s : ByteArray} (h : fourL s.data.toList = none) : vp4 s = .tuple ⟨[.agg ⟨[.bool false, .int .u8 0, .int .u8 0, .int .u8 0, .int .u8 0, .int .u8 0, .int .u8 0, .int .u8 0, .int .u8 0, .int .u8 0, .int .u8 0, .int .u8 0, .int .u8 0, .int .u8 0, .int .u8 0, .int .u8 0, .int .u8 0]⟩, .bool false]⟩ := by
  unfold vp4; rw [(f4_none h).1, (f4_none h).2]; rfl
theorem parse4_call (hR : Ra) (s : ByteArray) (hs : s.size ≤ 1048576) (w : World) (hw : Held w) :
    Calls Tryz.prog 26 #[.string s] w fun e w' => e = .returned (vp4 s) ∧ Below w.heap.size w w' := by
  refine calls_specK (envA hR theHh) hcokP 80 (v := vp4 s) ?_ (all_bel rfl) rfl w hw
  have c0 : decide (s.size ≤ 1048576) = true := decide_eq_true hs
  by_cases h4 : (pcs s 46).length = 4
  · have c1 : decide ((pcs s 46).length = 4) = true := decide_eq_true h4
    have hf := four_of h4
    have no : ∀ i, ¬ 255 < uuV (nth (pcs s 46) i) → decide (uuV (nth (pcs s 46) i) > 255) = false := fun i h => decide_eq_false h
    have ys : ∀ i, 255 < uuV (nth (pcs s 46) i) → decide (uuV (nth (pcs s 46) i) > 255) = true := fun i h => decide_eq_true h
    cases k0 : uuK (nth (pcs s 46) 0)
    · rw [nv4_bad k0] at hf
      rw [vp4_none hf]
      exact Tree.way_holds (p4b0_way hR theHh s) (by simp only [anK32, anK33, c0, c1, k0]; rfl)
    by_cases g0 : 255 < uuV (nth (pcs s 46) 0)
    · rw [nv4_big g0] at hf
      rw [vp4_none hf]
      exact Tree.way_holds (p4g0_way hR theHh s) (by simp only [anK32, anK33, anK35, c0, c1, k0, ys 0 g0]; rfl)
    rw [nv4_yes k0 (by omega), Option.bind_some] at hf
    cases k1 : uuK (nth (pcs s 46) 1)
    · rw [nv4_bad k1] at hf
      rw [vp4_none hf]
      exact Tree.way_holds (p4b1_way hR theHh s) (by simp only [anK32, anK33, anK35, c0, c1, k0, k1, no 0 g0]; rfl)
    by_cases g1 : 255 < uuV (nth (pcs s 46) 1)
    · rw [nv4_big g1] at hf
      rw [vp4_none hf]
      exact Tree.way_holds (p4g1_way hR theHh s) (by simp only [anK32, anK33, anK35, anK36, c0, c1, k0, k1, no 0 g0, ys 1 g1]; rfl)
    rw [nv4_yes k1 (by omega), Option.bind_some] at hf
    cases k2 : uuK (nth (pcs s 46) 2)
    · rw [nv4_bad k2] at hf
      rw [vp4_none hf]
      exact Tree.way_holds (p4b2_way hR theHh s) (by simp only [anK32, anK33, anK35, anK36, c0, c1, k0, k1, k2, no 0 g0, no 1 g1]; rfl)
    by_cases g2 : 255 < uuV (nth (pcs s 46) 2)
    · rw [nv4_big g2] at hf
      rw [vp4_none hf]
      exact Tree.way_holds (p4g2_way hR theHh s) (by simp only [anK32, anK33, anK35, anK36, anK37, c0, c1, k0, k1, k2, no 0 g0, no 1 g1, ys 2 g2]; rfl)
    rw [nv4_yes k2 (by omega), Option.bind_some] at hf
    cases k3 : uuK (nth (pcs s 46) 3)
    · rw [nv4_bad k3] at hf
      rw [vp4_none hf]
      exact Tree.way_holds (p4b3_way hR theHh s) (by simp only [anK32, anK33, anK35, anK36, anK37, c0, c1, k0, k1, k2, k3, no 0 g0, no 1 g1, no 2 g2]; rfl)
    by_cases g3 : 255 < uuV (nth (pcs s 46) 3)
    · rw [nv4_big g3] at hf
      rw [vp4_none hf]
      exact Tree.way_holds (p4g3_way hR theHh s) (by simp only [anK32, anK33, anK35, anK36, anK37, anK38, c0, c1, k0, k1, k2, k3, no 0 g0, no 1 g1, no 2 g2, ys 3 g3]; rfl)
    rw [nv4_yes k3 (by omega), Option.bind_some] at hf
    have hv := p4k_way hR theHh s
    have hw8 : ∀ i, ¬ 255 < uuV (nth (pcs s 46) i) → IntKind.wrap .u8 (uuV (nth (pcs s 46) i)) = (((UInt8.ofNat (uuV (nth (pcs s 46) i)).toNat).toNat : Nat) : Int) := fun i h => w8 (uuV_nn _) (by omega)
    rw [hw8 0 g0, hw8 1 g1, hw8 2 g2, hw8 3 g3] at hv
    have hval : vp4 s = .tuple ⟨[adr false [UInt8.ofNat (uuV (nth (pcs s 46) 0)).toNat, UInt8.ofNat (uuV (nth (pcs s 46) 1)).toNat, UInt8.ofNat (uuV (nth (pcs s 46) 2)).toNat, UInt8.ofNat (uuV (nth (pcs s 46) 3)).toNat], .bool true]⟩ := by
      unfold vp4 f4K f4L; rw [hf]; rfl
    rw [hval]
    exact Tree.way_holds hv (by simp only [anK32, anK33, anK35, anK36, anK37, anK38, c0, c1, k0, k1, k2, k3, no 0 g0, no 1 g1, no 2 g2, no 3 g3]; rfl)
  · have c1 : decide ((pcs s 46).length = 4) = false := decide_eq_false h4
    have c2 : ((((pcs s 46).length : Nat) : Int) != 4) = true := by rw [bne_iff_ne]; omega
    have hf : fourL s.data.toList = none := by
      unfold fourL; rw [if_neg]; unfold pcs at h4; rw [List.length_map] at h4; exact h4
    rw [vp4_none hf]
    exact Tree.way_holds (p4n_way hR theHh s) (by simp only [anK32, anK33, anK34, c0, c1, c2]; rfl)
end

end Go.Proofs.YtmfdnbjmfgljlaaGreatDoor


/-
  The longest run of groups that are 0: the walk.
-/


namespace Go.Proofs.YtmfdnbjmfgljlaaGreatDoor

open Go.Den Go.RowKit

set_option maxRecDepth 100000

set_option linter.unusedSectionVars false

theorem rl_step (zs : List Bool) (k : Nat) (h : k < zs.length) : rl (zs.drop k) = if zs[k] then rl (zs.drop (k + 1)) + 1 else 0 := by
  rw [List.drop_eq_getElem_cons h]
  cases zs[k] <;> rfl
theorem rl_end (zs : List Bool) (k : Nat) (h : zs.length ≤ k) : rl (zs.drop k) = 0 := by
  rw [List.drop_eq_nil_of_le h]; rfl
theorem rl_le (zs : List Bool) : rl zs ≤ zs.length := by
  induction zs with
  | nil => exact Nat.le_refl _
  | cons b r ih => cases b <;> simp [rl] <;> omega
theorem rl_drop_le (zs : List Bool) (k : Nat) (h : k ≤ zs.length) : k + rl (zs.drop k) ≤ zs.length := by
  have := rl_le (zs.drop k)
  rw [List.length_drop] at this; omega
noncomputable def natOf (v : Value) : Nat :=
  match v with
  | .int _ n => n.toNat
  | _ => 0
theorem run_walk (g : List ByteArray) (hg : g.length = 8) (blk i : Nat) (hi : i ≤ 8) (w : World) (hc : ∀ j, j < 8 → w.cell? ⟨blk, j, none⟩ = some (.string (nth g j))) :
    Calls Tryz.prog 72 #[.int .i64 (i : Int), .pointer (some ⟨blk, 0, none⟩)] w fun e w' => e = .returned (.int .i64 (((i + rl ((g.map zB).drop i) : Nat)) : Int)) ∧ w' = w := by
  have hz : (g.map zB).length = 8 := by rw [List.length_map, hg]
  have HC := Lib.hid hc; clear hc
  generalize hr : i + rl ((g.map zB).drop i) = r
  have HR := Lib.hid hr; clear hr
  go_enter Tryz.func72, Tryz.ntmps72
  go_wp2
  go_loopw [4] (fun v wr => wr = w ∧ ∃ k : Nat, v = .int .i64 (k : Int) ∧ i ≤ k ∧ k ≤ 8 ∧ k + rl ((g.map zB).drop k) = r) (fun v _ => 8 - natOf v)
  case atStart => exact ⟨rfl, i, rfl, Nat.le_refl _, hi, HR.out⟩
  case round =>
    obtain ⟨rfl, k, rfl, h1, h2, h3⟩ := hrel
    by_cases hk : k < 8
    · have hcell := HC.out k hk
      have hk8 : (k : Int) < 8 := by omega
      have h0 : (0 : Int) ≤ (k : Int) := by omega
      have hlt : k < (g.map zB).length := by rw [hz]; exact hk
      have hst := rl_step (g.map zB) k hlt
      have hgk : (g.map zB)[k]'hlt = zB (nth g k) := by
        rw [List.getElem_map]; unfold nth; rw [List.getD_eq_getElem?_getD, List.getElem?_eq_getElem (by omega)]; rfl
      rw [hgk] at hst
      generalize nth g k = s at *
      cases hb : zB s
      · have he : (s.toList == [48]) = false := by rw [Lib.toList_data]; exact hb
        rw [hb] at hst
        have hk' : r = k := by rw [← h3, hst]; rfl
        have HK := Lib.hid hk'
        clear hst h3 hgk hb
        go_wp2
        go_ret
        exact ⟨by rw [HK.out]; rfl, rfl⟩
      · have he : (s.toList == [48]) = true := by rw [Lib.toList_data]; exact hb
        rw [hb] at hst
        have hk' : k + 1 + rl ((g.map zB).drop (k + 1)) = r := by
          rw [← h3, hst, if_pos rfl]; omega
        have HK := Lib.hid hk'
        clear hst h3 hgk hb
        go_wp2
        exact ⟨⟨trivial, k + 1, by go_num, by omega, by omega, HK.out⟩, by simp only [natOf]; omega⟩
    · have hk' : k = 8 := by omega
      subst hk'
      rw [rl_end _ 8 (by omega)] at h3
      have HK := Lib.hid h3
      clear h3
      go_wp2
      go_ret
      exact ⟨by rw [← HK.out]; rfl, rfl⟩
end Go.Proofs.YtmfdnbjmfgljlaaGreatDoor


/-
  Where the longest run of groups that are 0 begins and ends: the walk.
-/

namespace Go.Proofs.YtmfdnbjmfgljlaaGreatDoor

open Go.Den Go.RowKit

set_option maxRecDepth 100000

set_option linter.unusedSectionVars false

theorem gapGo_bd (zs : List Bool) : ∀ (k i : Nat) (p : Nat × Nat), i + k ≤ zs.length → p.1 ≤ p.2 → p.2 ≤ zs.length → (gapGo zs k i p).1 ≤ (gapGo zs k i p).2 ∧ (gapGo zs k i p).2 ≤ zs.length
  | 0, _, _, _, h1, h2 => ⟨h1, h2⟩
  | k + 1, i, p, h0, h1, h2 => by
    rw [gapGo]
    have := rl_drop_le zs i (by omega)
    split
    · exact gapGo_bd zs k (i + 1) _ (by omega) (by simp) (by simpa using this)
    · exact gapGo_bd zs k (i + 1) p (by omega) h1 h2
def GapR (zs : List Bool) (w : World) (cs : Array Value) (f t i : Value) (wr : World) : Prop := ∃ (k : Nat) (p : Nat × Nat), i = .int .i64 (k : Int) ∧ f = .int .i64 (p.1 : Int) ∧ t = .int .i64 (p.2 : Int) ∧
  k ≤ 8 ∧ p.1 ≤ p.2 ∧ p.2 ≤ 8 ∧ gapGo zs (8 - k) k p = gapS zs ∧ Blk wr w.heap.size cs 81 ∧ Below w.heap.size w wr
set_option maxHeartbeats 4000000 in
theorem gap_walk (g : List ByteArray) (hg : g.length = 8) (w : World) :
    Calls Tryz.prog 44 #[.agg ⟨g.map Value.string⟩] w fun e w' => e = .returned (.tuple #[.int .i64 ((gapS (g.map zB)).1 : Int), .int .i64 ((gapS (g.map zB)).2 : Int)]) ∧ Below w.heap.size w w' := by
  have hz : (g.map zB).length = 8 := by rw [List.length_map, hg]
  have hsz : (Array.mk (g.map Value.string)).size = 8 := by simp [hg]
  have hcells : ∀ j, j < 8 → (Array.mk (g.map Value.string))[j]? = some (.string (nth g j)) := fun j hj => by
    rw [← Array.getElem?_toList, List.getElem?_map]
    unfold nth
    rw [List.getD_eq_getElem?_getD, List.getElem?_eq_getElem (by omega)]; rfl
  have HCS := Lib.hid hcells; clear hcells
  generalize hcs : Array.mk (g.map Value.string) = cs at *
  clear hcs
  generalize hr : gapS (g.map zB) = r
  have HR := Lib.hid hr; clear hr
  have hblk0 : Blk (w.alloc (.cells cs 81)) w.heap.size cs 81 := Blk.new rfl
  have hbel0 : Below w.heap.size w (w.alloc (.cells cs 81)) := (Below.refl _ w).alloc (Nat.le_refl _) _
  have HB0 := Lib.hid hblk0; have HE0 := Lib.hid hbel0
  clear hblk0 hbel0
  go_enter Tryz.func44, Tryz.ntmps44
  go_wp2
  go_loopw [2, 3, 8] (fun f t i wr => GapR (g.map zB) w cs f t i wr) (fun _ _ i _ => 8 - natOf i)
  case atStart => exact ⟨0, (0, 0), rfl, rfl, rfl, by omega, by simp, by simp, rfl, HB0.out, HE0.out⟩
  case round =>
    obtain ⟨k, p, rfl, rfl, rfl, h1, h2, h3, h4, h5, h6⟩ := hrel
    by_cases hk : k < 8
    · have hrun := run_walk g hg w.heap.size k (by omega) wr (fun j hj => by rw [h5.cell]; exact HCS.out j hj)
      have hle := rl_drop_le (g.map zB) k (by omega)
      rw [hz] at hle
      have hst : gapGo (g.map zB) (8 - (k + 1)) (k + 1) (if p.2 - p.1 < rl ((g.map zB).drop k) then (k, k + rl ((g.map zB).drop k)) else p) = gapS (g.map zB) := by
        rw [← h4, show 8 - k = 8 - (k + 1) + 1 by omega, gapGo]
      obtain ⟨a, b⟩ := p
      simp only at h2 h3 hst
      generalize rl ((g.map zB).drop k) = q at *
      have HRUN := Lib.hid hrun; have HST := Lib.hid hst; have H5 := Lib.hid h5; have H6 := Lib.hid h6
      clear hrun hst h4 h5 h6
      by_cases hq : b - a < q
      · have hq2 : (((b : Nat) : Int) - ((a : Nat) : Int)) < ((((k + q : Nat)) : Int) - ((k : Nat) : Int)) := by omega
        go_wp2_with (go_at_call 72; refine HRUN.out.mono ?_; rintro e w' ⟨rfl, rfl⟩)
        exact ⟨⟨k + 1, (k, k + q), by go_num, rfl, by go_num, by omega, Nat.le_add_right _ _, hle, by rw [← HST.out, if_pos hq], H5.out, H6.out⟩, by simp only [natOf]; omega⟩
      · have hq2 : ¬ (((b : Nat) : Int) - ((a : Nat) : Int)) < ((((k + q : Nat)) : Int) - ((k : Nat) : Int)) := by omega
        go_wp2_with (go_at_call 72; refine HRUN.out.mono ?_; rintro e w' ⟨rfl, rfl⟩)
        exact ⟨⟨k + 1, (a, b), by go_num, rfl, rfl, by omega, h2, h3, by rw [← HST.out, if_neg hq], H5.out, H6.out⟩, by simp only [natOf]; omega⟩
    · have hk' : k = 8 := by omega
      subst hk'
      have hp : p = r := by rw [← HR.out, ← h4]; rfl
      subst hp
      have H6 := Lib.hid h6
      clear h4 h5 h6
      go_wp2
      go_ret2
      exact ⟨rfl, H6.out⟩
end Go.Proofs.YtmfdnbjmfgljlaaGreatDoor


/-
  Contracts as oracles: the layer addr's own functions that print.
-/

namespace Go.Proofs.YtmfdnbjmfgljlaaGreatDoor

open Go.Den Go.RowKit
noncomputable section
set_option maxRecDepth 100000

set_option linter.unusedSectionVars false

variable [Inhabited Root]

def ok16 (r : List Value) : Bool := Nat.beq r.length 16 && allV isB8 r
theorem ok16_of {r : List Value} (h : ok16 r = true) : ∃ l : List UInt8, l.length = 16 ∧ bytesIn r = l ∧ Value.agg ⟨r⟩ = arr l ∧ ∀ v, Value.agg ⟨.bool v :: r⟩ = adr v l := by
  unfold ok16 at h
  rw [Bool.and_eq_true, Nat.beq_eq] at h
  exact of_bytes h.2 h.1
def mayS : Array Value → Option (Bool × Value)
  | ⟨[.agg ⟨.bool v :: r⟩]⟩ => some (ok16 r, .bool (mayL (v, bytesIn r)))
  | _ => none
def splitS (X : Hh) : Array Value → Option (Bool × Value)
  | ⟨[.agg ⟨[v0, v1, v2, v3, v4, v5, v6, v7, v8, v9, v10, v11, v12, v13, v14, v15]⟩]⟩ => some (ok16 [v0, v1, v2, v3, v4, v5, v6, v7, v8, v9, v10, v11, v12, v13, v14, v15], .agg ⟨[.string (X.gp (byteOf v0) (byteOf v1)), .string (X.gp (byteOf v2) (byteOf v3)), .string (X.gp (byteOf v4) (byteOf v5)), .string (X.gp (byteOf v6) (byteOf v7)), .string (X.gp (byteOf v8) (byteOf v9)), .string (X.gp (byteOf v10) (byteOf v11)), .string (X.gp (byteOf v12) (byteOf v13)), .string (X.gp (byteOf v14) (byteOf v15))]⟩)
  | _ => none
def print4S (X : Hh) : Array Value → Option (Bool × Value)
  | ⟨[.agg ⟨r⟩]⟩ => some (ok16 r, .string (X.p4 (bytesIn r)))
  | _ => none
def gapSS (X : Hh) : Array Value → Option (Bool × Value)
  | ⟨[.agg ⟨r⟩]⟩ => some (Nat.beq r.length 8 && allV isStr r, .tuple ⟨[.int .i64 ((X.gf (strsIn r) : Nat) : Int), .int .i64 ((X.gt (strsIn r) : Nat) : Int)]⟩)
  | _ => none
def parse4S : Array Value → Option (Bool × Value)
  | ⟨[.string s]⟩ => some (decide (s.size ≤ 1048576), vp4 s)
  | _ => none
theorem bytes_bel : ∀ (r : List Value), allV isB8 r = true → r.all (bel B0) = true := fun r h => by
  rw [bytesIn_eq h, List.all_eq_true]
  intro v hv
  obtain ⟨c, _, rfl⟩ := List.mem_map.1 hv
  rfl
theorem arr_bel (l : List UInt8) : (⟨[arr l]⟩ : Array Value).all (bel B0) = true := all_bel rfl
theorem adr_bel (v : Bool) (l : List UInt8) : (⟨[adr v l]⟩ : Array Value).all (bel B0) = true := all_bel rfl
def pkMay (hR : Ra) : PK Tryz.prog where
  f := 11
  spec := mayS
  body := by kernel_rfl
  ok := fun args r hr hok => by
    unfold mayS at hr
    split at hr
    · cases hr
      obtain ⟨l, h1, h2, _, h4⟩ := ok16_of hok
      rw [h4, h2]
      exact ⟨adr_bel _ l, rfl, fun w hw => may_call hR _ h1 w hw⟩
    · cases hr
def pkRefMay (hR : Ra) : PK Tryz.prog where
  f := 12
  spec := mayS
  body := by kernel_rfl
  ok := fun args r hr hok => by
    unfold mayS at hr
    split at hr
    · cases hr
      obtain ⟨l, h1, h2, _, h4⟩ := ok16_of hok
      rw [h4, h2]
      exact ⟨adr_bel _ l, rfl, fun w hw => refMay_call hR _ h1 w hw⟩
    · cases hr
def pkSplit (hR : Ra) (X : Hh) : PK Tryz.prog where
  f := 43
  spec := splitS X
  body := by kernel_rfl
  ok := fun args r hr hok => by
    unfold splitS at hr
    split at hr
    · cases hr
      dsimp only at hok
      obtain ⟨l, h1, h2, h3, _⟩ := ok16_of hok
      rw [h3]
      subst h2
      exact ⟨arr_bel _, rfl, fun w hw => split_call hR X _ w hw⟩
    · cases hr
def pkPrint4 (hR : Ra) (X : Hh) : PK Tryz.prog where
  f := 21
  spec := print4S X
  body := by kernel_rfl
  ok := fun args r hr hok => by
    unfold print4S at hr
    split at hr
    · cases hr
      obtain ⟨l, h1, h2, h3, _⟩ := ok16_of hok
      rw [h3, h2]
      exact ⟨arr_bel l, rfl, fun w hw => print4_call hR X h1 w hw⟩
    · cases hr
def pcGap (X : Hh) : PC Tryz.prog where
  f := 44
  spec := gapSS X
  body := by kernel_rfl
  ok := fun args r hr hok => by
    unfold gapSS at hr
    split at hr
    · rename_i r
      cases hr
      rw [Bool.and_eq_true, Nat.beq_eq] at hok
      have hl : (strsIn r).length = 8 := by unfold strsIn; rw [List.length_map]; exact hok.1
      have he := strsIn_eq hok.2
      refine ⟨all_bel ?_, rfl, fun w => ?_⟩
      · rw [he]
        generalize strsIn r = g at hl
        match g, hl with
        | [_, _, _, _, _, _, _, _], _ => rfl
      · rw [X.gfE, X.gtE]
        conv => arg 3; rw [he]
        exact gap_walk (strsIn r) hl w
    · cases hr
def gapNS (X : Hh) (f t : Nat) : Array Value → Option (Bool × Value)
  | ⟨[.agg ⟨r⟩]⟩ => some ((Nat.beq r.length 8 && allV isStr r) && (decide (X.gf (strsIn r) = f) && decide (X.gt (strsIn r) = t)), .tuple ⟨[.int .i64 ((f : Nat) : Int), .int .i64 ((t : Nat) : Int)]⟩)
  | _ => none
def pcGapN (X : Hh) (f t : Nat) : PC Tryz.prog where
  f := (pcGap X).f
  spec := gapNS X f t
  body := (pcGap X).body
  ok := fun args r hr hok => by
    unfold gapNS at hr
    split at hr
    · rename_i r
      cases hr
      dsimp only at hok
      obtain ⟨h1, h2⟩ := (Bool.and_eq_true _ _ ▸ hok : _ ∧ _)
      rw [Bool.and_eq_true, decide_eq_true_eq, decide_eq_true_eq] at h2
      obtain ⟨rfl, rfl⟩ := h2
      exact (pcGap X).ok ⟨[.agg ⟨r⟩]⟩ (Nat.beq r.length 8 && allV isStr r, .tuple ⟨[.int .i64 ((X.gf (strsIn r) : Nat) : Int), .int .i64 ((X.gt (strsIn r) : Nat) : Int)]⟩) rfl h1
    · cases hr
def pkParse4 (hR : Ra) : PK Tryz.prog where
  f := 26
  spec := parse4S
  body := by kernel_rfl
  ok := fun args r hr hok => by
    unfold parse4S at hr
    split at hr
    · cases hr
      rw [decide_eq_true_eq] at hok
      exact ⟨all_bel rfl, rfl, fun w hw => parse4_call hR _ hok w hw⟩
    · cases hr
def memsB [Inhabited Names] (hR : Ra) (X : Hh) : List (PM Tryz.prog) :=
  (pkMay hR).mem :: (pkRefMay hR).mem :: (pkSplit hR X).mem :: (pkPrint4 hR X).mem :: (pcGap X).up.mem :: (pkParse4 hR).mem :: memsA hR X
def envG [Inhabited Names] (hR : Ra) (X : Hh) (f t : Nat) : Env Tryz.prog := envS.mem false ((pcGapN X f t).up.mem :: memsB hR X)
def envB [Inhabited Names] (hR : Ra) (X : Hh) : Env Tryz.prog := envS.mem false (memsB hR X)
end

end Go.Proofs.YtmfdnbjmfgljlaaGreatDoor


/-
  Readings: undot.
-/

namespace Go.Proofs.YtmfdnbjmfgljlaaGreatDoor

open Go.Den Go.RowKit
noncomputable section
set_option maxRecDepth 100000

set_option linter.unusedSectionVars false

variable [Inhabited Root]

def bnK0 (s : ByteArray) : Bool := decide (ByteArray.size s ≤ 1048576)
def bnK1 (s : ByteArray) : Bool := decide (0 ≤ IntKind.wrap IntKind.i64 (lastI s 58 + 1)) && decide (IntKind.wrap IntKind.i64 (lastI s 58 + 1) ≤ (↑(ByteArray.size s) : Int))
def bnK2 (s : ByteArray) : Bool := decide (ByteArray.size (ByteArray.extract s (Int.toNat (IntKind.wrap IntKind.i64 (lastI s 58 + 1))) (ByteArray.size s)) ≤ 1048576)
def bnK3 (s : ByteArray) : Bool := f4K (ByteArray.extract s (Int.toNat (IntKind.wrap IntKind.i64 (lastI s 58 + 1))) (ByteArray.size s))
def bnK4 (s : ByteArray) : Bool := ok16 [Value.int IntKind.u8 (bt (f4L (ByteArray.extract s (Int.toNat (IntKind.wrap IntKind.i64 (lastI s 58 + 1))) (ByteArray.size s))) 0), Value.int IntKind.u8 (bt (f4L (ByteArray.extract s (Int.toNat (IntKind.wrap IntKind.i64 (lastI s 58 + 1))) (ByteArray.size s))) 1), Value.int IntKind.u8 (bt (f4L (ByteArray.extract s (Int.toNat (IntKind.wrap IntKind.i64 (lastI s 58 + 1))) (ByteArray.size s))) 2), Value.int IntKind.u8 (bt (f4L (ByteArray.extract s (Int.toNat (IntKind.wrap IntKind.i64 (lastI s 58 + 1))) (ByteArray.size s))) 3), Value.int IntKind.u8 (bt (f4L (ByteArray.extract s (Int.toNat (IntKind.wrap IntKind.i64 (lastI s 58 + 1))) (ByteArray.size s))) 4), Value.int IntKind.u8 (bt (f4L (ByteArray.extract s (Int.toNat (IntKind.wrap IntKind.i64 (lastI s 58 + 1))) (ByteArray.size s))) 5), Value.int IntKind.u8 (bt (f4L (ByteArray.extract s (Int.toNat (IntKind.wrap IntKind.i64 (lastI s 58 + 1))) (ByteArray.size s))) 6), Value.int IntKind.u8 (bt (f4L (ByteArray.extract s (Int.toNat (IntKind.wrap IntKind.i64 (lastI s 58 + 1))) (ByteArray.size s))) 7), Value.int IntKind.u8 (bt (f4L (ByteArray.extract s (Int.toNat (IntKind.wrap IntKind.i64 (lastI s 58 + 1))) (ByteArray.size s))) 8), Value.int IntKind.u8 (bt (f4L (ByteArray.extract s (Int.toNat (IntKind.wrap IntKind.i64 (lastI s 58 + 1))) (ByteArray.size s))) 9), Value.int IntKind.u8 (bt (f4L (ByteArray.extract s (Int.toNat (IntKind.wrap IntKind.i64 (lastI s 58 + 1))) (ByteArray.size s))) 10), Value.int IntKind.u8 (bt (f4L (ByteArray.extract s (Int.toNat (IntKind.wrap IntKind.i64 (lastI s 58 + 1))) (ByteArray.size s))) 11), Value.int IntKind.u8 (bt (f4L (ByteArray.extract s (Int.toNat (IntKind.wrap IntKind.i64 (lastI s 58 + 1))) (ByteArray.size s))) 12), Value.int IntKind.u8 (bt (f4L (ByteArray.extract s (Int.toNat (IntKind.wrap IntKind.i64 (lastI s 58 + 1))) (ByteArray.size s))) 13), Value.int IntKind.u8 (bt (f4L (ByteArray.extract s (Int.toNat (IntKind.wrap IntKind.i64 (lastI s 58 + 1))) (ByteArray.size s))) 14), Value.int IntKind.u8 (bt (f4L (ByteArray.extract s (Int.toNat (IntKind.wrap IntKind.i64 (lastI s 58 + 1))) (ByteArray.size s))) 15)]
def bnK5 (s : ByteArray) : Bool := decide (0 ≤ IntKind.wrap IntKind.i64 (lastI s 58 + 1)) && decide (IntKind.wrap IntKind.i64 (lastI s 58 + 1) ≤ (↑(ByteArray.size s) : Int)) && true
def bnK6 (X : Hh) (s : ByteArray) : Bool := decide ((↑(ByteArray.size (ByteArray.extract s 0 (Int.toNat (IntKind.wrap IntKind.i64 (lastI s 58 + 1)))) + ByteArray.size (Hh.gp X (byteOf (Value.int IntKind.u8 (bt (f4L (ByteArray.extract s (Int.toNat (IntKind.wrap IntKind.i64 (lastI s 58 + 1))) (ByteArray.size s))) 0))) (byteOf (Value.int IntKind.u8 (bt (f4L (ByteArray.extract s (Int.toNat (IntKind.wrap IntKind.i64 (lastI s 58 + 1))) (ByteArray.size s))) 1))))) : Int) ≤ 9223372036854775807)
def bnK7 (X : Hh) (s : ByteArray) : Bool := decide ((↑(ByteArray.size (ByteArray.extract s 0 (Int.toNat (IntKind.wrap IntKind.i64 (lastI s 58 + 1))) ++ Hh.gp X (byteOf (Value.int IntKind.u8 (bt (f4L (ByteArray.extract s (Int.toNat (IntKind.wrap IntKind.i64 (lastI s 58 + 1))) (ByteArray.size s))) 0))) (byteOf (Value.int IntKind.u8 (bt (f4L (ByteArray.extract s (Int.toNat (IntKind.wrap IntKind.i64 (lastI s 58 + 1))) (ByteArray.size s))) 1)))) + 1) : Int) ≤ 9223372036854775807)
def bnK8 (X : Hh) (s : ByteArray) : Bool := decide ((↑(ByteArray.size (ByteArray.extract s 0 (Int.toNat (IntKind.wrap IntKind.i64 (lastI s 58 + 1))) ++ Hh.gp X (byteOf (Value.int IntKind.u8 (bt (f4L (ByteArray.extract s (Int.toNat (IntKind.wrap IntKind.i64 (lastI s 58 + 1))) (ByteArray.size s))) 0))) (byteOf (Value.int IntKind.u8 (bt (f4L (ByteArray.extract s (Int.toNat (IntKind.wrap IntKind.i64 (lastI s 58 + 1))) (ByteArray.size s))) 1))) ++ { data := { toList := [58] } }) + ByteArray.size (Hh.gp X (byteOf (Value.int IntKind.u8 (bt (f4L (ByteArray.extract s (Int.toNat (IntKind.wrap IntKind.i64 (lastI s 58 + 1))) (ByteArray.size s))) 2))) (byteOf (Value.int IntKind.u8 (bt (f4L (ByteArray.extract s (Int.toNat (IntKind.wrap IntKind.i64 (lastI s 58 + 1))) (ByteArray.size s))) 3))))) : Int) ≤ 9223372036854775807)
def bnR0 (hR : Ra) (X : Hh) (s : ByteArray) : Tree VR := ((ev (envB hR X) 80).call [] 51 #[.string s] [] B0)
theorem uda_way (hR : Ra) (X : Hh) (s : ByteArray) : (bnR0 hR X s).way [(2, true), (4, true), (0, true), (3, false)] = some ([bnK0 s, bnK1 s, bnK2 s, bnK3 s], Value.string s) := by kernel_rfl
theorem udb_way (hR : Ra) (X : Hh) (s : ByteArray) : (bnR0 hR X s).way [(2, true), (4, true), (0, true), (3, true), (10, true), (5, true), (5, true), (1, true), (5, true)] = some ([bnK0 s, bnK1 s, bnK2 s, bnK3 s, bnK4 s, bnK5 s, bnK6 X s, bnK7 X s, bnK8 X s], Value.string
  (ByteArray.extract s 0 (Int.toNat (IntKind.wrap IntKind.i64 (lastI s 58 + 1))) ++
        Hh.gp X
          (byteOf
            (Value.int IntKind.u8
              (bt (f4L (ByteArray.extract s (Int.toNat (IntKind.wrap IntKind.i64 (lastI s 58 + 1))) (ByteArray.size s)))
                0)))
          (byteOf
            (Value.int IntKind.u8
              (bt (f4L (ByteArray.extract s (Int.toNat (IntKind.wrap IntKind.i64 (lastI s 58 + 1))) (ByteArray.size s)))
                1))) ++
      { data := { toList := [58] } } ++
    Hh.gp X
      (byteOf
        (Value.int IntKind.u8
          (bt (f4L (ByteArray.extract s (Int.toNat (IntKind.wrap IntKind.i64 (lastI s 58 + 1))) (ByteArray.size s)))
            2)))
      (byteOf
        (Value.int IntKind.u8
          (bt (f4L (ByteArray.extract s (Int.toNat (IntKind.wrap IntKind.i64 (lastI s 58 + 1))) (ByteArray.size s)))
            3))))) := by kernel_rfl
theorem size_le_len (s : ByteArray) : s.data.toList.length = s.size := Array.length_toList
/-- The last place of a byte. -/
theorem get_data {s : ByteArray} {k : Nat} (h : k < s.size) : ((s.data[k]!).toNat : Int) = ((s.data.toList[k]'(by rw [size_le_len]; exact h)).toNat : Int) := by
  have h2 : k < s.data.size := h
  rw [getElem!_pos s.data k h2]
  rw [Array.getElem_toList]
theorem last_none {s : ByteArray} (h : lastAt 58 s.data.toList = none) : lastI s 58 = -1 := by
  have hn := lastAt_none.1 h
  unfold lastI Lib.lastIndexByte
  rcases Lib.lastIdx_spec s 58 s.size with ⟨e, _⟩ | ⟨i, hi, e, hc, _⟩
  · exact e
  · rw [get_data hi] at hc
    have : s.data.toList[i]'(by rw [size_le_len]; exact hi) = 58 := u8_eq (by have : (58 : UInt8).toNat = 58 := rfl; omega)
    exact absurd (this ▸ List.getElem_mem _) hn
theorem last_some {s : ByteArray} {x y : List UInt8} (h : lastAt 58 s.data.toList = some (x, y)) : lastI s 58 = (x.length : Int) - 1 ∧ 1 ≤ x.length := by
  obtain ⟨p, hx, hl, hy⟩ := lastAt_some.1 h
  have hxl : x.length = p.length + 1 := by rw [hx]; simp
  have hsl : s.size = x.length + y.length := by rw [← size_le_len, hl, List.length_append]
  have hat : s.data.toList[p.length]? = some 58 := by rw [hl, hx]; simp
  refine ⟨?_, by omega⟩
  unfold lastI Lib.lastIndexByte
  rcases Lib.lastIdx_spec s 58 s.size with ⟨_, hn⟩ | ⟨i, hi, e, hc, hn⟩
  · have hp : p.length < s.size := by omega
    have := hn p.length hp
    rw [get_data hp] at this
    rw [List.getElem?_eq_getElem (by rw [size_le_len]; exact hp)] at hat
    rw [Option.some.inj hat] at this
    exact absurd rfl this
  · rw [e]
    have hp : p.length < s.size := by omega
    have h1 : ¬ i < p.length := fun hlt => by
      have := hn p.length hlt hp
      rw [get_data hp] at this
      rw [List.getElem?_eq_getElem (by rw [size_le_len]; exact hp)] at hat
      rw [Option.some.inj hat] at this
      exact this rfl
    have h2 : ¬ p.length < i := fun hlt => by
      rw [get_data hi] at hc
      have e2 : s.data.toList[i]'(by rw [size_le_len]; exact hi) = 58 := u8_eq (by have : (58 : UInt8).toNat = 58 := rfl; omega)
      have e3 : s.data.toList[i]? = some 58 := by rw [List.getElem?_eq_getElem (by rw [size_le_len]; exact hi), e2]
      rw [hl, List.getElem?_append_right (by omega)] at e3
      exact hy (List.mem_of_getElem? e3)
    omega
/-- Where the last colon's right side begins. -/
theorem last_wrap {s : ByteArray} (hs : s.size ≤ 1048576) : IntKind.wrap .i64 (lastI s 58 + 1) = ((lastP s.data.toList).1.length : Int) ∧ (lastP s.data.toList).1.length ≤ s.size ∧ s.data.toList = (lastP s.data.toList).1 ++ (lastP s.data.toList).2 := by
  unfold lastP
  cases h : lastAt 58 s.data.toList with
  | none =>
    rw [last_none h]
    exact ⟨rfl, Nat.zero_le _, rfl⟩
  | some q =>
    obtain ⟨x, y⟩ := q
    obtain ⟨e, h1⟩ := last_some h
    obtain ⟨p, _, hl, _⟩ := lastAt_some.1 h
    have hsl : s.size = x.length + y.length := by rw [← size_le_len, hl, List.length_append]
    rw [e]
    refine ⟨?_, by show x.length ≤ _; omega, hl⟩
    show IntKind.wrap .i64 ((x.length : Int) - 1 + 1) = (x.length : Int)
    rw [IntKind.wrap_i64]; omega
def udtS (s : ByteArray) : ByteArray := mkB (undotL s.data.toList)
theorem gp_size (X : Hh) (a b : UInt8) : (X.gp a b).size ≤ 4 := by
  rw [X.gpE, size_mkB, hx2_grp]; exact (grp_len _).2
theorem undot_call (hR : Ra) (X : Hh) (s : ByteArray) (hs : s.size ≤ 1048576) (w : World) (hw : Held w) :
    Calls Tryz.prog 51 #[.string s] w fun e w' => e = .returned (.string (udtS s)) ∧ Below w.heap.size w w' := by
  refine calls_specK (envB hR X) hcokP 80 (v := .string (udtS s)) ?_ (all_bel rfl) rfl w hw
  obtain ⟨hwr, hle, hsplit⟩ := last_wrap hs
  have hund : undotL s.data.toList = match fourL (lastP s.data.toList).2 with
    | some b => (lastP s.data.toList).1 ++ four2 b
    | none => s.data.toList := rfl
  generalize hX : (lastP s.data.toList).1 = x at *
  generalize hY : (lastP s.data.toList).2 = y at *
  have hdr : s.extract x.length s.size = mkB y := by
    rw [ext_mk, List.take_of_length_le (by rw [size_le_len]; exact Nat.le_refl _), hsplit]
    congr 1
    exact List.drop_left' rfl
  have htk : s.extract 0 x.length = mkB x := by
    rw [ext_mk, List.drop_zero, hsplit]
    congr 1
    exact List.take_left' rfl
  have hy : y.length ≤ s.size := by
    have := congrArg List.length hsplit
    rw [List.length_append, size_le_len] at this; omega
  have tn : (x.length : Int).toNat = x.length := Int.toNat_natCast _
  have c0 : decide (s.size ≤ 1048576) = true := decide_eq_true hs
  have c1 : decide (0 ≤ (x.length : Int)) = true := decide_eq_true (by omega)
  have c2 : decide ((x.length : Int) ≤ (s.size : Int)) = true := decide_eq_true (by omega)
  have c3 : decide ((mkB y).size ≤ 1048576) = true := decide_eq_true (by rw [size_mkB]; omega)
  cases hf : fourL y with
  | none =>
    rw [hf] at hund
    have hk : f4K (mkB y) = false := by unfold f4K; rw [data_mkB, hf]; rfl
    have hv : udtS s = s := by unfold udtS; rw [hund]; exact mkB_data s
    rw [hv]
    exact Tree.way_holds (uda_way hR X s) (by simp only [bnK0, bnK1, bnK2, bnK3, hwr, tn, hdr, c0, c1, c2, c3, hk]; rfl)
  | some b =>
    rw [hf] at hund
    have hk : f4K (mkB y) = true := by unfold f4K; rw [data_mkB, hf]; rfl
    have hb4 := fourL_len hf
    have hf4 : f4L (mkB y) = b := by unfold f4L; rw [data_mkB, hf]; rfl
    have e := udb_way hR X s
    simp only [hwr, tn, hdr, htk, hf4, byteOf_bt] at e
    have hg := gp_size X
    have s0 : (mkB x).size ≤ 1048576 := by rw [size_mkB]; omega
    have hv : mkB x ++ X.gp (b.getD 0 0) (b.getD 1 0) ++ ⟨⟨[58]⟩⟩ ++ X.gp (b.getD 2 0) (b.getD 3 0) = udtS s := by
      unfold udtS
      rw [hund]
      match b, hb4 with
      | [p, q, r, t], _ =>
        rw [X.gpE, X.gpE, show (⟨⟨[58]⟩⟩ : ByteArray) = mkB [58] from rfl, mkB_app, mkB_app, mkB_app]
        show mkB (x ++ hx2 p q ++ [58] ++ hx2 r t) = mkB (x ++ (grp (256 * p.toNat + q.toNat) ++ 58 :: grp (256 * r.toNat + t.toNat)))
        rw [hx2_grp, hx2_grp]; simp
    rw [hv] at e
    have ok : ok16 [.int .u8 (bt b 0), .int .u8 (bt b 1), .int .u8 (bt b 2), .int .u8 (bt b 3), .int .u8 (bt b 4), .int .u8 (bt b 5), .int .u8 (bt b 6), .int .u8 (bt b 7), .int .u8 (bt b 8), .int .u8 (bt b 9), .int .u8 (bt b 10), .int .u8 (bt b 11), .int .u8 (bt b 12), .int .u8 (bt b 13), .int .u8 (bt b 14), .int .u8 (bt b 15)] = true := by
      unfold ok16
      rw [Bool.and_eq_true]
      refine ⟨rfl, ?_⟩
      rw [allV_eq, List.all_eq_true]
      intro v hv
      simp only [List.mem_cons, List.not_mem_nil, or_false] at hv
      rcases hv with rfl | rfl | rfl | rfl | rfl | rfl | rfl | rfl | rfl | rfl | rfl | rfl | rfl | rfl | rfl | rfl <;> exact isB8_bt b _
    have d1 : decide (((((mkB x).size + (X.gp (b.getD 0 0) (b.getD 1 0)).size) : Nat) : Int) ≤ 9223372036854775807) = true := decide_eq_true (by have := hg (b.getD 0 0) (b.getD 1 0); omega)
    have d2 : decide (((((mkB x ++ X.gp (b.getD 0 0) (b.getD 1 0)).size + 1) : Nat) : Int) ≤ 9223372036854775807) = true := decide_eq_true (by have := hg (b.getD 0 0) (b.getD 1 0); rw [ByteArray.size_append]; omega)
    have d3 : decide (((((mkB x ++ X.gp (b.getD 0 0) (b.getD 1 0) ++ ⟨⟨[58]⟩⟩).size + (X.gp (b.getD 2 0) (b.getD 3 0)).size) : Nat) : Int) ≤ 9223372036854775807) = true := decide_eq_true (by have := hg (b.getD 0 0) (b.getD 1 0); have := hg (b.getD 2 0) (b.getD 3 0); rw [ByteArray.size_append, ByteArray.size_append, show (ByteArray.mk ⟨[58]⟩).size = 1 from rfl]; omega)
    have k0 : bnK0 s = true := by unfold bnK0; exact c0
    have k1 : bnK1 s = true := by unfold bnK1; rw [hwr, c1, c2]; rfl
    have k2 : bnK2 s = true := by unfold bnK2; rw [hwr, tn, hdr]; exact c3
    have k3 : bnK3 s = true := by unfold bnK3; rw [hwr, tn, hdr]; exact hk
    have k4 : bnK4 s = true := by unfold bnK4; rw [hwr, tn, hdr, hf4]; exact ok
    have k5 : bnK5 s = true := by unfold bnK5; rw [hwr, c1, c2]; rfl
    have k6 : bnK6 X s = true := by unfold bnK6; rw [hwr, tn, hdr, htk, hf4, byteOf_bt, byteOf_bt]; exact d1
    have k7 : bnK7 X s = true := by unfold bnK7; rw [hwr, tn, hdr, htk, hf4, byteOf_bt, byteOf_bt]; exact d2
    have k8 : bnK8 X s = true := by unfold bnK8; rw [hwr, tn, hdr, htk, hf4, byteOf_bt, byteOf_bt, byteOf_bt, byteOf_bt]; exact d3
    exact Tree.way_holds e (by rw [k0, k1, k2, k3, k4, k5, k6, k7, k8]; rfl)
end

end Go.Proofs.YtmfdnbjmfgljlaaGreatDoor


/-
  The text of an IPv6 address: read for every run of groups that are 0.
-/

namespace Go.Proofs.YtmfdnbjmfgljlaaGreatDoor

open Go.Den Go.RowKit
noncomputable section
set_option maxRecDepth 100000

set_option linter.unusedSectionVars false

variable [Inhabited Root]

def gs8 (X : Hh) (l : List UInt8) : List Value := [.string (X.gp (byteOf (.int .u8 (bt l 0))) (byteOf (.int .u8 (bt l 1)))), .string (X.gp (byteOf (.int .u8 (bt l 2))) (byteOf (.int .u8 (bt l 3)))), .string (X.gp (byteOf (.int .u8 (bt l 4))) (byteOf (.int .u8 (bt l 5)))), .string (X.gp (byteOf (.int .u8 (bt l 6))) (byteOf (.int .u8 (bt l 7)))), .string (X.gp (byteOf (.int .u8 (bt l 8))) (byteOf (.int .u8 (bt l 9)))), .string (X.gp (byteOf (.int .u8 (bt l 10))) (byteOf (.int .u8 (bt l 11)))), .string (X.gp (byteOf (.int .u8 (bt l 12))) (byteOf (.int .u8 (bt l 13)))), .string (X.gp (byteOf (.int .u8 (bt l 14))) (byteOf (.int .u8 (bt l 15))))]
def b16 (l : List UInt8) : List Value := [.int .u8 (bt l 0), .int .u8 (bt l 1), .int .u8 (bt l 2), .int .u8 (bt l 3), .int .u8 (bt l 4), .int .u8 (bt l 5), .int .u8 (bt l 6), .int .u8 (bt l 7), .int .u8 (bt l 8), .int .u8 (bt l 9), .int .u8 (bt l 10), .int .u8 (bt l 11), .int .u8 (bt l 12), .int .u8 (bt l 13), .int .u8 (bt l 14), .int .u8 (bt l 15)]
def jf (X : Hh) (l : List UInt8) (a b : Nat) : ByteArray := X.jn (fext ⟨gs8 X l⟩ a b).toList ⟨⟨[58]⟩⟩
def qG (X : Hh) (l : List UInt8) (f t : Nat) : Bool := decide (X.gf (strsIn (gs8 X l)) = f) && decide (X.gt (strsIn (gs8 X l)) = t)
def qS (X : Hh) (l : List UInt8) (a b : Nat) : Bool := decide ((jf X l a b).size ≤ 140737488355328)
def q2 (X : Hh) (l : List UInt8) (a b : Nat) : Bool := decide ((((jf X l a b).size + 2 : Nat) : Int) ≤ 9223372036854775807)
def q3 (X : Hh) (l : List UInt8) (a b c d : Nat) : Bool := decide ((((jf X l a b ++ ⟨⟨[58, 58]⟩⟩).size + (jf X l c d).size : Nat) : Int) ≤ 9223372036854775807)
def rd6 (hR : Ra) (X : Hh) (l : List UInt8) (f t : Nat) : Tree VR := ((ev (envG hR X f t) 80).call [] 20 #[arr l] [] B0)
def rd6a (hR : Ra) (X : Hh) (l : List UInt8) : Tree VR := ((ev (envB hR X) 80).call [] 20 #[arr l] [] B0)
theorem p6a_way (hR : Ra) (X : Hh) (l : List UInt8) : (rd6a hR X l).way [(3, true), (12, true), (2, true)] = some ([ok16 (b16 l), decide (IntKind.wrap .i64 ((X.gt (strsIn (gs8 X l)) : Int) - (X.gf (strsIn (gs8 X l)) : Int)) < 2), qS X l 0 (0 + 8)], .string (jf X l 0 (0 + 8))) := by kernel_rfl
theorem p6w_0_2 (hR : Ra) (X : Hh) (l : List UInt8) : (rd6 hR X l 0 2).way [(3, true), (2, true), (15, true), (1, true), (5, true), (1, true)] = some ([ok16 (b16 l), qG X l 0 2, qS X l 0 (0 + 0), q2 X l 0 (0 + 0), qS X l (0 + 2) (0 + 2 + 6), q3 X l 0 (0 + 0) (0 + 2) (0 + 2 + 6)], .string (jf X l 0 (0 + 0) ++ ⟨⟨[58, 58]⟩⟩ ++ jf X l (0 + 2) (0 + 2 + 6))) := by kernel_rfl
theorem p6w_0_3 (hR : Ra) (X : Hh) (l : List UInt8) : (rd6 hR X l 0 3).way [(3, true), (2, true), (15, true), (1, true), (5, true), (1, true)] = some ([ok16 (b16 l), qG X l 0 3, qS X l 0 (0 + 0), q2 X l 0 (0 + 0), qS X l (0 + 3) (0 + 3 + 5), q3 X l 0 (0 + 0) (0 + 3) (0 + 3 + 5)], .string (jf X l 0 (0 + 0) ++ ⟨⟨[58, 58]⟩⟩ ++ jf X l (0 + 3) (0 + 3 + 5))) := by kernel_rfl
theorem p6w_0_4 (hR : Ra) (X : Hh) (l : List UInt8) : (rd6 hR X l 0 4).way [(3, true), (2, true), (15, true), (1, true), (5, true), (1, true)] = some ([ok16 (b16 l), qG X l 0 4, qS X l 0 (0 + 0), q2 X l 0 (0 + 0), qS X l (0 + 4) (0 + 4 + 4), q3 X l 0 (0 + 0) (0 + 4) (0 + 4 + 4)], .string (jf X l 0 (0 + 0) ++ ⟨⟨[58, 58]⟩⟩ ++ jf X l (0 + 4) (0 + 4 + 4))) := by kernel_rfl
theorem p6w_0_5 (hR : Ra) (X : Hh) (l : List UInt8) : (rd6 hR X l 0 5).way [(3, true), (2, true), (15, true), (1, true), (5, true), (1, true)] = some ([ok16 (b16 l), qG X l 0 5, qS X l 0 (0 + 0), q2 X l 0 (0 + 0), qS X l (0 + 5) (0 + 5 + 3), q3 X l 0 (0 + 0) (0 + 5) (0 + 5 + 3)], .string (jf X l 0 (0 + 0) ++ ⟨⟨[58, 58]⟩⟩ ++ jf X l (0 + 5) (0 + 5 + 3))) := by kernel_rfl
theorem p6w_0_6 (hR : Ra) (X : Hh) (l : List UInt8) : (rd6 hR X l 0 6).way [(3, true), (2, true), (15, true), (1, true), (5, true), (1, true)] = some ([ok16 (b16 l), qG X l 0 6, qS X l 0 (0 + 0), q2 X l 0 (0 + 0), qS X l (0 + 6) (0 + 6 + 2), q3 X l 0 (0 + 0) (0 + 6) (0 + 6 + 2)], .string (jf X l 0 (0 + 0) ++ ⟨⟨[58, 58]⟩⟩ ++ jf X l (0 + 6) (0 + 6 + 2))) := by kernel_rfl
theorem p6w_0_7 (hR : Ra) (X : Hh) (l : List UInt8) : (rd6 hR X l 0 7).way [(3, true), (2, true), (15, true), (1, true), (5, true), (1, true)] = some ([ok16 (b16 l), qG X l 0 7, qS X l 0 (0 + 0), q2 X l 0 (0 + 0), qS X l (0 + 7) (0 + 7 + 1), q3 X l 0 (0 + 0) (0 + 7) (0 + 7 + 1)], .string (jf X l 0 (0 + 0) ++ ⟨⟨[58, 58]⟩⟩ ++ jf X l (0 + 7) (0 + 7 + 1))) := by kernel_rfl
theorem p6w_0_8 (hR : Ra) (X : Hh) (l : List UInt8) : (rd6 hR X l 0 8).way [(3, true), (2, true), (15, true), (1, true), (5, true), (1, true)] = some ([ok16 (b16 l), qG X l 0 8, qS X l 0 (0 + 0), q2 X l 0 (0 + 0), qS X l 0 (0 + 0), q3 X l 0 (0 + 0) 0 (0 + 0)], .string (jf X l 0 (0 + 0) ++ ⟨⟨[58, 58]⟩⟩ ++ jf X l 0 (0 + 0))) := by kernel_rfl
theorem p6w_1_3 (hR : Ra) (X : Hh) (l : List UInt8) : (rd6 hR X l 1 3).way [(3, true), (2, true), (15, true), (1, true), (5, true), (1, true)] = some ([ok16 (b16 l), qG X l 1 3, qS X l 0 (0 + 1), q2 X l 0 (0 + 1), qS X l (0 + 3) (0 + 3 + 5), q3 X l 0 (0 + 1) (0 + 3) (0 + 3 + 5)], .string (jf X l 0 (0 + 1) ++ ⟨⟨[58, 58]⟩⟩ ++ jf X l (0 + 3) (0 + 3 + 5))) := by kernel_rfl
theorem p6w_1_4 (hR : Ra) (X : Hh) (l : List UInt8) : (rd6 hR X l 1 4).way [(3, true), (2, true), (15, true), (1, true), (5, true), (1, true)] = some ([ok16 (b16 l), qG X l 1 4, qS X l 0 (0 + 1), q2 X l 0 (0 + 1), qS X l (0 + 4) (0 + 4 + 4), q3 X l 0 (0 + 1) (0 + 4) (0 + 4 + 4)], .string (jf X l 0 (0 + 1) ++ ⟨⟨[58, 58]⟩⟩ ++ jf X l (0 + 4) (0 + 4 + 4))) := by kernel_rfl
theorem p6w_1_5 (hR : Ra) (X : Hh) (l : List UInt8) : (rd6 hR X l 1 5).way [(3, true), (2, true), (15, true), (1, true), (5, true), (1, true)] = some ([ok16 (b16 l), qG X l 1 5, qS X l 0 (0 + 1), q2 X l 0 (0 + 1), qS X l (0 + 5) (0 + 5 + 3), q3 X l 0 (0 + 1) (0 + 5) (0 + 5 + 3)], .string (jf X l 0 (0 + 1) ++ ⟨⟨[58, 58]⟩⟩ ++ jf X l (0 + 5) (0 + 5 + 3))) := by kernel_rfl
theorem p6w_1_6 (hR : Ra) (X : Hh) (l : List UInt8) : (rd6 hR X l 1 6).way [(3, true), (2, true), (15, true), (1, true), (5, true), (1, true)] = some ([ok16 (b16 l), qG X l 1 6, qS X l 0 (0 + 1), q2 X l 0 (0 + 1), qS X l (0 + 6) (0 + 6 + 2), q3 X l 0 (0 + 1) (0 + 6) (0 + 6 + 2)], .string (jf X l 0 (0 + 1) ++ ⟨⟨[58, 58]⟩⟩ ++ jf X l (0 + 6) (0 + 6 + 2))) := by kernel_rfl
theorem p6w_1_7 (hR : Ra) (X : Hh) (l : List UInt8) : (rd6 hR X l 1 7).way [(3, true), (2, true), (15, true), (1, true), (5, true), (1, true)] = some ([ok16 (b16 l), qG X l 1 7, qS X l 0 (0 + 1), q2 X l 0 (0 + 1), qS X l (0 + 7) (0 + 7 + 1), q3 X l 0 (0 + 1) (0 + 7) (0 + 7 + 1)], .string (jf X l 0 (0 + 1) ++ ⟨⟨[58, 58]⟩⟩ ++ jf X l (0 + 7) (0 + 7 + 1))) := by kernel_rfl
theorem p6w_1_8 (hR : Ra) (X : Hh) (l : List UInt8) : (rd6 hR X l 1 8).way [(3, true), (2, true), (15, true), (1, true), (5, true), (1, true)] = some ([ok16 (b16 l), qG X l 1 8, qS X l 0 (0 + 1), q2 X l 0 (0 + 1), qS X l 0 (0 + 0), q3 X l 0 (0 + 1) 0 (0 + 0)], .string (jf X l 0 (0 + 1) ++ ⟨⟨[58, 58]⟩⟩ ++ jf X l 0 (0 + 0))) := by kernel_rfl
theorem p6w_2_4 (hR : Ra) (X : Hh) (l : List UInt8) : (rd6 hR X l 2 4).way [(3, true), (2, true), (15, true), (1, true), (5, true), (1, true)] = some ([ok16 (b16 l), qG X l 2 4, qS X l 0 (0 + 2), q2 X l 0 (0 + 2), qS X l (0 + 4) (0 + 4 + 4), q3 X l 0 (0 + 2) (0 + 4) (0 + 4 + 4)], .string (jf X l 0 (0 + 2) ++ ⟨⟨[58, 58]⟩⟩ ++ jf X l (0 + 4) (0 + 4 + 4))) := by kernel_rfl
theorem p6w_2_5 (hR : Ra) (X : Hh) (l : List UInt8) : (rd6 hR X l 2 5).way [(3, true), (2, true), (15, true), (1, true), (5, true), (1, true)] = some ([ok16 (b16 l), qG X l 2 5, qS X l 0 (0 + 2), q2 X l 0 (0 + 2), qS X l (0 + 5) (0 + 5 + 3), q3 X l 0 (0 + 2) (0 + 5) (0 + 5 + 3)], .string (jf X l 0 (0 + 2) ++ ⟨⟨[58, 58]⟩⟩ ++ jf X l (0 + 5) (0 + 5 + 3))) := by kernel_rfl
theorem p6w_2_6 (hR : Ra) (X : Hh) (l : List UInt8) : (rd6 hR X l 2 6).way [(3, true), (2, true), (15, true), (1, true), (5, true), (1, true)] = some ([ok16 (b16 l), qG X l 2 6, qS X l 0 (0 + 2), q2 X l 0 (0 + 2), qS X l (0 + 6) (0 + 6 + 2), q3 X l 0 (0 + 2) (0 + 6) (0 + 6 + 2)], .string (jf X l 0 (0 + 2) ++ ⟨⟨[58, 58]⟩⟩ ++ jf X l (0 + 6) (0 + 6 + 2))) := by kernel_rfl
theorem p6w_2_7 (hR : Ra) (X : Hh) (l : List UInt8) : (rd6 hR X l 2 7).way [(3, true), (2, true), (15, true), (1, true), (5, true), (1, true)] = some ([ok16 (b16 l), qG X l 2 7, qS X l 0 (0 + 2), q2 X l 0 (0 + 2), qS X l (0 + 7) (0 + 7 + 1), q3 X l 0 (0 + 2) (0 + 7) (0 + 7 + 1)], .string (jf X l 0 (0 + 2) ++ ⟨⟨[58, 58]⟩⟩ ++ jf X l (0 + 7) (0 + 7 + 1))) := by kernel_rfl
theorem p6w_2_8 (hR : Ra) (X : Hh) (l : List UInt8) : (rd6 hR X l 2 8).way [(3, true), (2, true), (15, true), (1, true), (5, true), (1, true)] = some ([ok16 (b16 l), qG X l 2 8, qS X l 0 (0 + 2), q2 X l 0 (0 + 2), qS X l 0 (0 + 0), q3 X l 0 (0 + 2) 0 (0 + 0)], .string (jf X l 0 (0 + 2) ++ ⟨⟨[58, 58]⟩⟩ ++ jf X l 0 (0 + 0))) := by kernel_rfl
theorem p6w_3_5 (hR : Ra) (X : Hh) (l : List UInt8) : (rd6 hR X l 3 5).way [(3, true), (2, true), (15, true), (1, true), (5, true), (1, true)] = some ([ok16 (b16 l), qG X l 3 5, qS X l 0 (0 + 3), q2 X l 0 (0 + 3), qS X l (0 + 5) (0 + 5 + 3), q3 X l 0 (0 + 3) (0 + 5) (0 + 5 + 3)], .string (jf X l 0 (0 + 3) ++ ⟨⟨[58, 58]⟩⟩ ++ jf X l (0 + 5) (0 + 5 + 3))) := by kernel_rfl
theorem p6w_3_6 (hR : Ra) (X : Hh) (l : List UInt8) : (rd6 hR X l 3 6).way [(3, true), (2, true), (15, true), (1, true), (5, true), (1, true)] = some ([ok16 (b16 l), qG X l 3 6, qS X l 0 (0 + 3), q2 X l 0 (0 + 3), qS X l (0 + 6) (0 + 6 + 2), q3 X l 0 (0 + 3) (0 + 6) (0 + 6 + 2)], .string (jf X l 0 (0 + 3) ++ ⟨⟨[58, 58]⟩⟩ ++ jf X l (0 + 6) (0 + 6 + 2))) := by kernel_rfl
theorem p6w_3_7 (hR : Ra) (X : Hh) (l : List UInt8) : (rd6 hR X l 3 7).way [(3, true), (2, true), (15, true), (1, true), (5, true), (1, true)] = some ([ok16 (b16 l), qG X l 3 7, qS X l 0 (0 + 3), q2 X l 0 (0 + 3), qS X l (0 + 7) (0 + 7 + 1), q3 X l 0 (0 + 3) (0 + 7) (0 + 7 + 1)], .string (jf X l 0 (0 + 3) ++ ⟨⟨[58, 58]⟩⟩ ++ jf X l (0 + 7) (0 + 7 + 1))) := by kernel_rfl
theorem p6w_3_8 (hR : Ra) (X : Hh) (l : List UInt8) : (rd6 hR X l 3 8).way [(3, true), (2, true), (15, true), (1, true), (5, true), (1, true)] = some ([ok16 (b16 l), qG X l 3 8, qS X l 0 (0 + 3), q2 X l 0 (0 + 3), qS X l 0 (0 + 0), q3 X l 0 (0 + 3) 0 (0 + 0)], .string (jf X l 0 (0 + 3) ++ ⟨⟨[58, 58]⟩⟩ ++ jf X l 0 (0 + 0))) := by kernel_rfl
theorem p6w_4_6 (hR : Ra) (X : Hh) (l : List UInt8) : (rd6 hR X l 4 6).way [(3, true), (2, true), (15, true), (1, true), (5, true), (1, true)] = some ([ok16 (b16 l), qG X l 4 6, qS X l 0 (0 + 4), q2 X l 0 (0 + 4), qS X l (0 + 6) (0 + 6 + 2), q3 X l 0 (0 + 4) (0 + 6) (0 + 6 + 2)], .string (jf X l 0 (0 + 4) ++ ⟨⟨[58, 58]⟩⟩ ++ jf X l (0 + 6) (0 + 6 + 2))) := by kernel_rfl
theorem p6w_4_7 (hR : Ra) (X : Hh) (l : List UInt8) : (rd6 hR X l 4 7).way [(3, true), (2, true), (15, true), (1, true), (5, true), (1, true)] = some ([ok16 (b16 l), qG X l 4 7, qS X l 0 (0 + 4), q2 X l 0 (0 + 4), qS X l (0 + 7) (0 + 7 + 1), q3 X l 0 (0 + 4) (0 + 7) (0 + 7 + 1)], .string (jf X l 0 (0 + 4) ++ ⟨⟨[58, 58]⟩⟩ ++ jf X l (0 + 7) (0 + 7 + 1))) := by kernel_rfl
theorem p6w_4_8 (hR : Ra) (X : Hh) (l : List UInt8) : (rd6 hR X l 4 8).way [(3, true), (2, true), (15, true), (1, true), (5, true), (1, true)] = some ([ok16 (b16 l), qG X l 4 8, qS X l 0 (0 + 4), q2 X l 0 (0 + 4), qS X l 0 (0 + 0), q3 X l 0 (0 + 4) 0 (0 + 0)], .string (jf X l 0 (0 + 4) ++ ⟨⟨[58, 58]⟩⟩ ++ jf X l 0 (0 + 0))) := by kernel_rfl
theorem p6w_5_7 (hR : Ra) (X : Hh) (l : List UInt8) : (rd6 hR X l 5 7).way [(3, true), (2, true), (15, true), (1, true), (5, true), (1, true)] = some ([ok16 (b16 l), qG X l 5 7, qS X l 0 (0 + 5), q2 X l 0 (0 + 5), qS X l (0 + 7) (0 + 7 + 1), q3 X l 0 (0 + 5) (0 + 7) (0 + 7 + 1)], .string (jf X l 0 (0 + 5) ++ ⟨⟨[58, 58]⟩⟩ ++ jf X l (0 + 7) (0 + 7 + 1))) := by kernel_rfl
theorem p6w_5_8 (hR : Ra) (X : Hh) (l : List UInt8) : (rd6 hR X l 5 8).way [(3, true), (2, true), (15, true), (1, true), (5, true), (1, true)] = some ([ok16 (b16 l), qG X l 5 8, qS X l 0 (0 + 5), q2 X l 0 (0 + 5), qS X l 0 (0 + 0), q3 X l 0 (0 + 5) 0 (0 + 0)], .string (jf X l 0 (0 + 5) ++ ⟨⟨[58, 58]⟩⟩ ++ jf X l 0 (0 + 0))) := by kernel_rfl
theorem p6w_6_8 (hR : Ra) (X : Hh) (l : List UInt8) : (rd6 hR X l 6 8).way [(3, true), (2, true), (15, true), (1, true), (5, true), (1, true)] = some ([ok16 (b16 l), qG X l 6 8, qS X l 0 (0 + 6), q2 X l 0 (0 + 6), qS X l 0 (0 + 0), q3 X l 0 (0 + 6) 0 (0 + 0)], .string (jf X l 0 (0 + 6) ++ ⟨⟨[58, 58]⟩⟩ ++ jf X l 0 (0 + 0))) := by kernel_rfl

theorem ok16_bt (l : List UInt8) : ok16 (b16 l) = true := by
  unfold ok16 b16
  rw [Bool.and_eq_true]
  refine ⟨rfl, ?_⟩
  rw [allV_eq, List.all_eq_true]
  intro v hv
  simp only [List.mem_cons, List.not_mem_nil, or_false] at hv
  rcases hv with rfl | rfl | rfl | rfl | rfl | rfl | rfl | rfl | rfl | rfl | rfl | rfl | rfl | rfl | rfl | rfl <;> exact isB8_bt l _
theorem gs8_eq (X : Hh) {l : List UInt8} (hl : l.length = 16) : gs8 X l = ((gl l).map grp).map fun g => Value.string (mkB g) := by
  unfold gs8
  simp only [byteOf_bt, X.gpE, hx2_grp]
  match l, hl with
  | [_, _, _, _, _, _, _, _, _, _, _, _, _, _, _, _], _ => rfl
theorem jf_eq (X : Hh) {l : List UInt8} (hl : l.length = 16) (a b : Nat) : jf X l a b = mkB (jn 58 ((((gl l).map grp).drop a).take (b - a))) := by
  unfold jf
  rw [X.jnE, gs8_eq X hl, fext_eq]
  unfold joinS
  have e1 : (Array.extract ⟨((gl l).map grp).map fun g => Value.string (mkB g)⟩ a b).toList = ((((gl l).map grp).drop a).take (b - a)).map fun g => Value.string (mkB g) := by
    rw [Array.toList_extract]
    simp [List.extract, List.map_drop, List.map_take]
  rw [e1]
  generalize (((gl l).map grp).drop a).take (b - a) = m
  have e2 : (strsIn (m.map fun g => Value.string (mkB g))).map (fun s : ByteArray => s.data.toList) = m := by
    unfold strsIn
    rw [List.map_map, List.map_map]
    conv => rhs; rw [← List.map_id m]
    rfl
  rw [e2]
  show (⟨(Lib.join m [58]).toArray⟩ : ByteArray) = _
  rw [jn_join]; rfl
theorem zB_grp {n : Nat} (h : n < 65536) : zB (mkB (grp n)) = decide (n = 0) := by
  unfold zB
  rw [data_mkB]
  by_cases h0 : n = 0
  · subst h0; rfl
  · rw [decide_eq_false h0, beq_eq_false_iff_ne]
    intro e
    have := grp_back h
    rw [e] at this
    have h48 : hexG [48] = some 0 := rfl
    rw [h48] at this
    exact h0 (Option.some.inj this).symm
theorem zs_eq (X : Hh) {l : List UInt8} (hl : l.length = 16) : (strsIn (gs8 X l)).map zB = zsOf (gl l) := by
  rw [gs8_eq X hl]
  unfold strsIn zsOf
  rw [List.map_map, List.map_map, List.map_map]
  refine List.map_congr_left fun n hn => ?_
  exact zB_grp ((gl_byt 8 l (by omega)).2.2 n hn)
theorem jn_short : ∀ (r : List (List UInt8)), (∀ x ∈ r, x.length ≤ 4) → (jn 58 r).length ≤ 5 * r.length
  | [], _ => by simp [jn]
  | [x], h => by have := h x (by simp); simp only [jn, List.length_singleton]; omega
  | x :: y :: r, h => by
    have h1 := h x (by simp)
    have h2 := jn_short (y :: r) (fun z hz => h z (by simp only [List.mem_cons] at hz ⊢; exact .inr hz))
    rw [jn_cons x (by simp), List.length_append, List.length_cons]
    simp only [List.length_cons] at h2 ⊢; omega
theorem jf_size (X : Hh) {l : List UInt8} (hl : l.length = 16) (a b : Nat) : (jf X l a b).size ≤ 40 := by
  rw [jf_eq X hl, size_mkB]
  have h1 := jn_short ((((gl l).map grp).drop a).take (b - a)) (fun x hx => by
    obtain ⟨n, _, rfl⟩ := List.mem_map.1 (List.mem_of_mem_drop (List.mem_of_mem_take hx))
    exact (grp_len n).2)
  have h2 : ((((gl l).map grp).drop a).take (b - a)).length ≤ 8 := by
    rw [List.length_take, List.length_drop, List.length_map, (gl_byt 8 l (by omega)).2.1]; omega
  omega
theorem qS_ok (X : Hh) {l : List UInt8} (hl : l.length = 16) (a b : Nat) : qS X l a b = true := by
  unfold qS; exact decide_eq_true (by have := jf_size X hl a b; omega)
theorem q2_ok (X : Hh) {l : List UInt8} (hl : l.length = 16) (a b : Nat) : q2 X l a b = true := by
  unfold q2; exact decide_eq_true (by have := jf_size X hl a b; omega)
theorem q3_ok (X : Hh) {l : List UInt8} (hl : l.length = 16) (a b c d : Nat) : q3 X l a b c d = true := by
  unfold q3; exact decide_eq_true (by have := jf_size X hl a b; have := jf_size X hl c d; rw [ByteArray.size_append, show (ByteArray.mk ⟨[58, 58]⟩).size = 2 from rfl]; omega)
theorem qG_ok (X : Hh) {l : List UInt8} (hl : l.length = 16) : qG X l (gapS (zsOf (gl l))).1 (gapS (zsOf (gl l))).2 = true := by
  unfold qG; rw [X.gfE, X.gtE, zs_eq X hl, decide_eq_true rfl, decide_eq_true rfl]; rfl
theorem val6 (X : Hh) {l : List UInt8} (hl : l.length = 16) {f t c d : Nat} (hf : (gapS (zsOf (gl l))).1 = f) (ht : (gapS (zsOf (gl l))).2 = t) (h2 : f + 2 ≤ t) (hd : (c = 0 + t ∧ d = 0 + t + (8 - t)) ∨ (t = 8 ∧ d = c)) :
    jf X l 0 (0 + f) ++ ⟨⟨[58, 58]⟩⟩ ++ jf X l c d = X.p6 l := by
  have h8 : ((gl l).map grp).length = 8 := by rw [List.length_map, (gl_byt 8 l (by omega)).2.1]
  have e1 : (((gl l).map grp).drop 0).take (0 + f - 0) = ((gl l).map grp).take f := by rw [List.drop_zero]; congr 1; omega
  have e2 : (((gl l).map grp).drop c).take (d - c) = ((gl l).map grp).drop t := by
    rcases hd with ⟨rfl, rfl⟩ | ⟨rfl, rfl⟩
    · rw [Nat.zero_add, List.take_of_length_le]
      rw [List.length_drop, h8]; omega
    · rw [Nat.sub_self, List.take_zero, List.drop_eq_nil_of_le (by omega)]
  rw [jf_eq X hl, jf_eq X hl, e1, e2, X.p6E, show (⟨⟨[58, 58]⟩⟩ : ByteArray) = mkB [58, 58] from rfl, mkB_app, mkB_app]
  unfold p6L prG
  rw [hf, ht, if_neg (by omega)]
  congr 1
  simp
theorem p6_holds (hR : Ra) (X : Hh) {l : List UInt8} (hl : l.length = 16) {f t : Nat} (hf : (gapS (zsOf (gl l))).1 = f) (ht : (gapS (zsOf (gl l))).2 = t) (h2 : f + 2 ≤ t) (c d : Nat) (hd : (c = 0 + t ∧ d = 0 + t + (8 - t)) ∨ (t = 8 ∧ d = c))
    (e : (rd6 hR X l f t).way [(3, true), (2, true), (15, true), (1, true), (5, true), (1, true)] = some ([ok16 (b16 l), qG X l f t, qS X l 0 (0 + f), q2 X l 0 (0 + f), qS X l c d, q3 X l 0 (0 + f) c d], .string (jf X l 0 (0 + f) ++ ⟨⟨[58, 58]⟩⟩ ++ jf X l c d))) :
    (rd6 hR X l f t).holds fun r => r.v = .string (X.p6 l) := by
  have hq := qG_ok X hl
  rw [hf, ht] at hq
  rw [val6 X hl hf ht h2 hd] at e
  exact Tree.way_holds e (by rw [ok16_bt, hq, qS_ok X hl, q2_ok X hl, qS_ok X hl, q3_ok X hl]; rfl)
theorem p6_all (hR : Ra) (X : Hh) {l : List UInt8} (hl : l.length = 16) {f t : Nat} (hf : (gapS (zsOf (gl l))).1 = f) (ht : (gapS (zsOf (gl l))).2 = t) (h2 : f + 2 ≤ t) (h8 : t ≤ 8) :
    (rd6 hR X l f t).holds fun r => r.v = .string (X.p6 l) := by
  have hfb : f = 0 ∨ f = 1 ∨ f = 2 ∨ f = 3 ∨ f = 4 ∨ f = 5 ∨ f = 6 := by omega
  rcases hfb with rfl | rfl | rfl | rfl | rfl | rfl | rfl
  · have htb : t = 2 ∨ t = 3 ∨ t = 4 ∨ t = 5 ∨ t = 6 ∨ t = 7 ∨ t = 8 := by omega
    rcases htb with rfl | rfl | rfl | rfl | rfl | rfl | rfl
    · exact p6_holds hR X hl hf ht (by omega) (0 + 2) (0 + 2 + 6) (.inl ⟨rfl, rfl⟩) (p6w_0_2 hR X l)
    · exact p6_holds hR X hl hf ht (by omega) (0 + 3) (0 + 3 + 5) (.inl ⟨rfl, rfl⟩) (p6w_0_3 hR X l)
    · exact p6_holds hR X hl hf ht (by omega) (0 + 4) (0 + 4 + 4) (.inl ⟨rfl, rfl⟩) (p6w_0_4 hR X l)
    · exact p6_holds hR X hl hf ht (by omega) (0 + 5) (0 + 5 + 3) (.inl ⟨rfl, rfl⟩) (p6w_0_5 hR X l)
    · exact p6_holds hR X hl hf ht (by omega) (0 + 6) (0 + 6 + 2) (.inl ⟨rfl, rfl⟩) (p6w_0_6 hR X l)
    · exact p6_holds hR X hl hf ht (by omega) (0 + 7) (0 + 7 + 1) (.inl ⟨rfl, rfl⟩) (p6w_0_7 hR X l)
    · exact p6_holds hR X hl hf ht (by omega) 0 (0 + 0) (.inr ⟨rfl, rfl⟩) (p6w_0_8 hR X l)
  · have htb : t = 3 ∨ t = 4 ∨ t = 5 ∨ t = 6 ∨ t = 7 ∨ t = 8 := by omega
    rcases htb with rfl | rfl | rfl | rfl | rfl | rfl
    · exact p6_holds hR X hl hf ht (by omega) (0 + 3) (0 + 3 + 5) (.inl ⟨rfl, rfl⟩) (p6w_1_3 hR X l)
    · exact p6_holds hR X hl hf ht (by omega) (0 + 4) (0 + 4 + 4) (.inl ⟨rfl, rfl⟩) (p6w_1_4 hR X l)
    · exact p6_holds hR X hl hf ht (by omega) (0 + 5) (0 + 5 + 3) (.inl ⟨rfl, rfl⟩) (p6w_1_5 hR X l)
    · exact p6_holds hR X hl hf ht (by omega) (0 + 6) (0 + 6 + 2) (.inl ⟨rfl, rfl⟩) (p6w_1_6 hR X l)
    · exact p6_holds hR X hl hf ht (by omega) (0 + 7) (0 + 7 + 1) (.inl ⟨rfl, rfl⟩) (p6w_1_7 hR X l)
    · exact p6_holds hR X hl hf ht (by omega) 0 (0 + 0) (.inr ⟨rfl, rfl⟩) (p6w_1_8 hR X l)
  · have htb : t = 4 ∨ t = 5 ∨ t = 6 ∨ t = 7 ∨ t = 8 := by omega
    rcases htb with rfl | rfl | rfl | rfl | rfl
    · exact p6_holds hR X hl hf ht (by omega) (0 + 4) (0 + 4 + 4) (.inl ⟨rfl, rfl⟩) (p6w_2_4 hR X l)
    · exact p6_holds hR X hl hf ht (by omega) (0 + 5) (0 + 5 + 3) (.inl ⟨rfl, rfl⟩) (p6w_2_5 hR X l)
    · exact p6_holds hR X hl hf ht (by omega) (0 + 6) (0 + 6 + 2) (.inl ⟨rfl, rfl⟩) (p6w_2_6 hR X l)
    · exact p6_holds hR X hl hf ht (by omega) (0 + 7) (0 + 7 + 1) (.inl ⟨rfl, rfl⟩) (p6w_2_7 hR X l)
    · exact p6_holds hR X hl hf ht (by omega) 0 (0 + 0) (.inr ⟨rfl, rfl⟩) (p6w_2_8 hR X l)
  · have htb : t = 5 ∨ t = 6 ∨ t = 7 ∨ t = 8 := by omega
    rcases htb with rfl | rfl | rfl | rfl
    · exact p6_holds hR X hl hf ht (by omega) (0 + 5) (0 + 5 + 3) (.inl ⟨rfl, rfl⟩) (p6w_3_5 hR X l)
    · exact p6_holds hR X hl hf ht (by omega) (0 + 6) (0 + 6 + 2) (.inl ⟨rfl, rfl⟩) (p6w_3_6 hR X l)
    · exact p6_holds hR X hl hf ht (by omega) (0 + 7) (0 + 7 + 1) (.inl ⟨rfl, rfl⟩) (p6w_3_7 hR X l)
    · exact p6_holds hR X hl hf ht (by omega) 0 (0 + 0) (.inr ⟨rfl, rfl⟩) (p6w_3_8 hR X l)
  · have htb : t = 6 ∨ t = 7 ∨ t = 8 := by omega
    rcases htb with rfl | rfl | rfl
    · exact p6_holds hR X hl hf ht (by omega) (0 + 6) (0 + 6 + 2) (.inl ⟨rfl, rfl⟩) (p6w_4_6 hR X l)
    · exact p6_holds hR X hl hf ht (by omega) (0 + 7) (0 + 7 + 1) (.inl ⟨rfl, rfl⟩) (p6w_4_7 hR X l)
    · exact p6_holds hR X hl hf ht (by omega) 0 (0 + 0) (.inr ⟨rfl, rfl⟩) (p6w_4_8 hR X l)
  · have htb : t = 7 ∨ t = 8 := by omega
    rcases htb with rfl | rfl
    · exact p6_holds hR X hl hf ht (by omega) (0 + 7) (0 + 7 + 1) (.inl ⟨rfl, rfl⟩) (p6w_5_7 hR X l)
    · exact p6_holds hR X hl hf ht (by omega) 0 (0 + 0) (.inr ⟨rfl, rfl⟩) (p6w_5_8 hR X l)
  · have htb : t = 8 := by omega
    rcases htb with rfl
    · exact p6_holds hR X hl hf ht (by omega) 0 (0 + 0) (.inr ⟨rfl, rfl⟩) (p6w_6_8 hR X l)
theorem print6_call (hR : Ra) (X : Hh) {l : List UInt8} (hl : l.length = 16) (w : World) (hw : Held w) :
    Calls Tryz.prog 20 #[arr l] w fun e w' => e = .returned (.string (X.p6 l)) ∧ Below w.heap.size w w' := by
  have hg := gap_facts (zs := zsOf (gl l)) (by unfold zsOf; rw [List.length_map, (gl_byt 8 l (by omega)).2.1])
  obtain ⟨h1, h2, _⟩ := hg
  have hq := qG_ok X hl
  have k0 := ok16_bt l
  by_cases hc : (gapS (zsOf (gl l))).2 - (gapS (zsOf (gl l))).1 < 2
  · refine calls_specK (envB hR X) hcokP 80 (v := .string (X.p6 l)) ?_ (all_bel rfl) rfl w hw
    have e := p6a_way hR X l
    have hv : jf X l 0 (0 + 8) = X.p6 l := by
      rw [jf_eq X hl, X.p6E]
      unfold p6L prG
      rw [if_pos hc, List.drop_zero, List.take_of_length_le]
      rw [List.length_map, (gl_byt 8 l (by omega)).2.1]; omega
    rw [hv] at e
    have k1 : decide (IntKind.wrap .i64 ((X.gt (strsIn (gs8 X l)) : Int) - (X.gf (strsIn (gs8 X l)) : Int)) < 2) = true := by
      rw [X.gfE, X.gtE, zs_eq X hl, IntKind.wrap_i64]
      exact decide_eq_true (by omega)
    exact Tree.way_holds e (by rw [k0, k1, qS_ok X hl]; rfl)
  · generalize hf : (gapS (zsOf (gl l))).1 = f at *
    generalize ht : (gapS (zsOf (gl l))).2 = t at *
    exact calls_specK (envG hR X f t) hcokP 80 (p6_all hR X hl hf ht (by omega) h2) (all_bel rfl) rfl w hw
end

end Go.Proofs.YtmfdnbjmfgljlaaGreatDoor


/-
  Contracts as oracles: print6, undot.
-/

namespace Go.Proofs.YtmfdnbjmfgljlaaGreatDoor

open Go.Den Go.RowKit
noncomputable section
set_option maxRecDepth 100000

set_option linter.unusedSectionVars false

variable [Inhabited Root]

def print6S (X : Hh) : Array Value → Option (Bool × Value)
  | ⟨[.agg ⟨r⟩]⟩ => some (ok16 r, .string (X.p6 (bytesIn r)))
  | _ => none
def undotS : Array Value → Option (Bool × Value)
  | ⟨[.string s]⟩ => some (decide (s.size ≤ 1048576), .string (udtS s))
  | _ => none
def pkPrint6 (hR : Ra) (X : Hh) : PK Tryz.prog where
  f := 20
  spec := print6S X
  body := by kernel_rfl
  ok := fun args r hr hok => by
    unfold print6S at hr
    split at hr
    · cases hr
      obtain ⟨l, h1, h2, h3, _⟩ := ok16_of hok
      rw [h3, h2]
      exact ⟨arr_bel l, rfl, fun w hw => print6_call hR X h1 w hw⟩
    · cases hr
def pkUndot (hR : Ra) : PK Tryz.prog where
  f := 51
  spec := undotS
  body := by kernel_rfl
  ok := fun args r hr hok => by
    unfold undotS at hr
    split at hr
    · cases hr
      rw [decide_eq_true_eq] at hok
      exact ⟨all_bel rfl, rfl, fun w hw => undot_call hR theHh _ hok w hw⟩
    · cases hr
def memsC [Inhabited Names] (hR : Ra) (X : Hh) : List (PM Tryz.prog) := (pkPrint6 hR X).mem :: (pkUndot hR).mem :: memsB hR X
def envC [Inhabited Names] (hR : Ra) (X : Hh) : Env Tryz.prog := envS.mem false (memsC hR X)
end

end Go.Proofs.YtmfdnbjmfgljlaaGreatDoor


/-
  Readings: Print.
-/

namespace Go.Proofs.YtmfdnbjmfgljlaaGreatDoor

open Go.Den Go.RowKit
noncomputable section
set_option maxRecDepth 100000

set_option linter.unusedSectionVars false

variable [Inhabited Root]

def cnK0 (l : List UInt8) : Bool := ok16 [Value.int IntKind.u8 (bt l 0), Value.int IntKind.u8 (bt l 1), Value.int IntKind.u8 (bt l 2), Value.int IntKind.u8 (bt l 3), Value.int IntKind.u8 (bt l 4), Value.int IntKind.u8 (bt l 5), Value.int IntKind.u8 (bt l 6), Value.int IntKind.u8 (bt l 7), Value.int IntKind.u8 (bt l 8), Value.int IntKind.u8 (bt l 9), Value.int IntKind.u8 (bt l 10), Value.int IntKind.u8 (bt l 11), Value.int IntKind.u8 (bt l 12), Value.int IntKind.u8 (bt l 13), Value.int IntKind.u8 (bt l 14), Value.int IntKind.u8 (bt l 15)]
def cnK1 (l : List UInt8) : Bool := !mayL (false, bytesIn [Value.int IntKind.u8 (bt l 0), Value.int IntKind.u8 (bt l 1), Value.int IntKind.u8 (bt l 2), Value.int IntKind.u8 (bt l 3), Value.int IntKind.u8 (bt l 4), Value.int IntKind.u8 (bt l 5), Value.int IntKind.u8 (bt l 6), Value.int IntKind.u8 (bt l 7), Value.int IntKind.u8 (bt l 8), Value.int IntKind.u8 (bt l 9), Value.int IntKind.u8 (bt l 10), Value.int IntKind.u8 (bt l 11), Value.int IntKind.u8 (bt l 12), Value.int IntKind.u8 (bt l 13), Value.int IntKind.u8 (bt l 14), Value.int IntKind.u8 (bt l 15)])
def cnR0 (hR : Ra) (X : Hh) (l : List UInt8) : Tree VR := ((ev (envC hR X) 80).call [] 8 #[adr true l] [] B0)
def cnR1 (hR : Ra) (X : Hh) (l : List UInt8) : Tree VR := ((ev (envC hR X) 80).call [] 8 #[adr false l] [] B0)
theorem prA_way (hR : Ra) (X : Hh) (l : List UInt8) : (cnR0 hR X l).way [(4, true), (9, true)] = some ([cnK0 l, cnK0 l], Value.tuple
  {
    toList :=
      [Value.string
          (Hh.p6 X
            (bytesIn
              [Value.int IntKind.u8 (bt l 0), Value.int IntKind.u8 (bt l 1), Value.int IntKind.u8 (bt l 2),
                Value.int IntKind.u8 (bt l 3), Value.int IntKind.u8 (bt l 4), Value.int IntKind.u8 (bt l 5),
                Value.int IntKind.u8 (bt l 6), Value.int IntKind.u8 (bt l 7), Value.int IntKind.u8 (bt l 8),
                Value.int IntKind.u8 (bt l 9), Value.int IntKind.u8 (bt l 10), Value.int IntKind.u8 (bt l 11),
                Value.int IntKind.u8 (bt l 12), Value.int IntKind.u8 (bt l 13), Value.int IntKind.u8 (bt l 14),
                Value.int IntKind.u8 (bt l 15)])),
        Value.int IntKind.i64 0] }) := by kernel_rfl
theorem prB0_way (hR : Ra) (X : Hh) (l : List UInt8) : (cnR1 hR X l).way [(4, true), (1, true)] = some ([cnK0 l, cnK1 l], Value.tuple { toList := [Value.string { data := { toList := [] } }, Value.int IntKind.i64 2] }) := by kernel_rfl
theorem prB1_way (hR : Ra) (X : Hh) (l : List UInt8) : (cnR1 hR X l).way [(4, true), (1, false), (7, true)] = some ([cnK0 l, cnK1 l, cnK0 l], Value.tuple
  {
    toList :=
      [Value.string
          (Hh.p4 X
            (bytesIn
              [Value.int IntKind.u8 (bt l 0), Value.int IntKind.u8 (bt l 1), Value.int IntKind.u8 (bt l 2),
                Value.int IntKind.u8 (bt l 3), Value.int IntKind.u8 (bt l 4), Value.int IntKind.u8 (bt l 5),
                Value.int IntKind.u8 (bt l 6), Value.int IntKind.u8 (bt l 7), Value.int IntKind.u8 (bt l 8),
                Value.int IntKind.u8 (bt l 9), Value.int IntKind.u8 (bt l 10), Value.int IntKind.u8 (bt l 11),
                Value.int IntKind.u8 (bt l 12), Value.int IntKind.u8 (bt l 13), Value.int IntKind.u8 (bt l 14),
                Value.int IntKind.u8 (bt l 15)])),
        Value.int IntKind.i64 0] }) := by kernel_rfl
def prB (X : Hh) (v : Bool) (l : List UInt8) : ByteArray := bif mayL (v, l) then (bif v then X.p6 l else X.p4 l) else ⟨⟨[]⟩⟩
def prE (v : Bool) (l : List UInt8) : Int := bif mayL (v, l) then 0 else 2
theorem b16_in {l : List UInt8} (hl : l.length = 16) : bytesIn (b16 l) = l := inB_16 hl
theorem print_call (hR : Ra) (X : Hh) (v : Bool) {l : List UInt8} (hl : l.length = 16) (w : World) (hw : Held w) :
    Calls Tryz.prog 8 #[adr v l] w fun e w' => e = .returned (.tuple ⟨[.string (prB X v l), .int .i64 (prE v l)]⟩) ∧ Below w.heap.size w w' := by
  refine calls_specK (envC hR X) hcokP 80 (v := .tuple ⟨[.string (prB X v l), .int .i64 (prE v l)]⟩) ?_ (all_bel rfl) rfl w hw
  have k0 : cnK0 l = true := ok16_bt l
  have hb : bytesIn [.int .u8 (bt l 0), .int .u8 (bt l 1), .int .u8 (bt l 2), .int .u8 (bt l 3), .int .u8 (bt l 4), .int .u8 (bt l 5), .int .u8 (bt l 6), .int .u8 (bt l 7), .int .u8 (bt l 8), .int .u8 (bt l 9), .int .u8 (bt l 10), .int .u8 (bt l 11), .int .u8 (bt l 12), .int .u8 (bt l 13), .int .u8 (bt l 14), .int .u8 (bt l 15)] = l := inB_16 hl
  cases v with
  | true =>
    have e := prA_way hR X l
    rw [hb] at e
    exact Tree.way_holds e (by rw [k0]; rfl)
  | false =>
    cases hm : mayL (false, l) with
    | false =>
      have k1 : cnK1 l = true := by unfold cnK1; rw [hb, hm]; rfl
      have h1 : prB X false l = ⟨⟨[]⟩⟩ := by unfold prB; rw [hm]; rfl
      have h2 : prE false l = 2 := by unfold prE; rw [hm]; rfl
      rw [h1, h2]
      exact Tree.way_holds (prB0_way hR X l) (by rw [k0, k1]; rfl)
    | true =>
      have k1 : cnK1 l = false := by unfold cnK1; rw [hb, hm]; rfl
      have h1 : prB X false l = X.p4 l := by unfold prB; rw [hm]; rfl
      have h2 : prE false l = 0 := by unfold prE; rw [hm]; rfl
      rw [h1, h2]
      have e := prB1_way hR X l
      rw [hb] at e
      exact Tree.way_holds e (by rw [k0, k1]; rfl)
def printS (X : Hh) : Array Value → Option (Bool × Value)
  | ⟨[.agg ⟨.bool v :: r⟩]⟩ => some (ok16 r, .tuple ⟨[.string (prB X v (bytesIn r)), .int .i64 (prE v (bytesIn r))]⟩)
  | _ => none
def pkPrint (hR : Ra) (X : Hh) : PK Tryz.prog where
  f := 8
  spec := printS X
  body := by kernel_rfl
  ok := fun args r hr hok => by
    unfold printS at hr
    split at hr
    · cases hr
      obtain ⟨l, h1, h2, _, h4⟩ := ok16_of hok
      rw [h4, h2]
      exact ⟨adr_bel _ l, rfl, fun w hw => print_call hR X _ h1 w hw⟩
    · cases hr
theorem prB_size (X : Hh) (v : Bool) {l : List UInt8} (hl : l.length = 16) : (prB X v l).size ≤ 100 := by
  unfold prB
  cases mayL (v, l) with
  | false => exact Nat.zero_le _
  | true =>
    cases v with
    | true =>
      show (X.p6 l).size ≤ 100
      rw [X.p6E, size_mkB]
      have h2 : ((gl l).map grp).length = 8 := by rw [List.length_map, (gl_byt 8 l (by omega)).2.1]
      have hs : ∀ r : List (List UInt8), (∀ x ∈ r, x ∈ (gl l).map grp) → (jn 58 r).length ≤ 5 * r.length := fun r hr => jn_short r (fun x hx => by
        obtain ⟨n, _, rfl⟩ := List.mem_map.1 (hr x hx); exact (grp_len n).2)
      unfold p6L prG
      split
      · have := hs _ (fun x hx => hx); omega
      · rw [List.length_append, List.length_cons, List.length_cons]
        have h3 := hs (((gl l).map grp).take (gapS (zsOf (gl l))).1) (fun x hx => List.mem_of_mem_take hx)
        have h4 := hs (((gl l).map grp).drop (gapS (zsOf (gl l))).2) (fun x hx => List.mem_of_mem_drop hx)
        rw [List.length_take] at h3
        rw [List.length_drop] at h4
        omega
    | false =>
      show (X.p4 l).size ≤ 100
      rw [X.p4E, size_mkB]
      have := p4_short l; omega
def memsD [Inhabited Names] (hR : Ra) (X : Hh) : List (PM Tryz.prog) := (pkPrint hR X).mem :: memsC hR X
def envD [Inhabited Names] (hR : Ra) (X : Hh) : Env Tryz.prog := envS.mem false (memsD hR X)
end

end Go.Proofs.YtmfdnbjmfgljlaaGreatDoor


/-
  Readings: Ends.
-/

namespace Go.Proofs.YtmfdnbjmfgljlaaGreatDoor

open Go.Den Go.RowKit
noncomputable section
set_option maxRecDepth 100000

set_option linter.unusedSectionVars false

variable [Inhabited Root]

def dnK0 (l : List UInt8) : Bool := ok16 [Value.int IntKind.u8 (bt l 0), Value.int IntKind.u8 (bt l 1), Value.int IntKind.u8 (bt l 2), Value.int IntKind.u8 (bt l 3), Value.int IntKind.u8 (bt l 4), Value.int IntKind.u8 (bt l 5), Value.int IntKind.u8 (bt l 6), Value.int IntKind.u8 (bt l 7), Value.int IntKind.u8 (bt l 8), Value.int IntKind.u8 (bt l 9), Value.int IntKind.u8 (bt l 10), Value.int IntKind.u8 (bt l 11), Value.int IntKind.u8 (bt l 12), Value.int IntKind.u8 (bt l 13), Value.int IntKind.u8 (bt l 14), Value.int IntKind.u8 (bt l 15)]
def dnK1 (X : Hh) (l : List UInt8) : Bool := decide ((↑(1 + ByteArray.size (prB X true (bytesIn [Value.int IntKind.u8 (bt l 0), Value.int IntKind.u8 (bt l 1), Value.int IntKind.u8 (bt l 2), Value.int IntKind.u8 (bt l 3), Value.int IntKind.u8 (bt l 4), Value.int IntKind.u8 (bt l 5), Value.int IntKind.u8 (bt l 6), Value.int IntKind.u8 (bt l 7), Value.int IntKind.u8 (bt l 8), Value.int IntKind.u8 (bt l 9), Value.int IntKind.u8 (bt l 10), Value.int IntKind.u8 (bt l 11), Value.int IntKind.u8 (bt l 12), Value.int IntKind.u8 (bt l 13), Value.int IntKind.u8 (bt l 14), Value.int IntKind.u8 (bt l 15)]))) : Int) ≤ 9223372036854775807)
def dnK2 (X : Hh) (l : List UInt8) : Bool := decide ((↑(ByteArray.size ({ data := { toList := [91] } } ++ prB X true (bytesIn [Value.int IntKind.u8 (bt l 0), Value.int IntKind.u8 (bt l 1), Value.int IntKind.u8 (bt l 2), Value.int IntKind.u8 (bt l 3), Value.int IntKind.u8 (bt l 4), Value.int IntKind.u8 (bt l 5), Value.int IntKind.u8 (bt l 6), Value.int IntKind.u8 (bt l 7), Value.int IntKind.u8 (bt l 8), Value.int IntKind.u8 (bt l 9), Value.int IntKind.u8 (bt l 10), Value.int IntKind.u8 (bt l 11), Value.int IntKind.u8 (bt l 12), Value.int IntKind.u8 (bt l 13), Value.int IntKind.u8 (bt l 14), Value.int IntKind.u8 (bt l 15)])) + 1) : Int) ≤ 9223372036854775807)
def dnK3 (X : Hh) (l : List UInt8) : Bool := decide ((↑(ByteArray.size ({ data := { toList := [91] } } ++ prB X true (bytesIn [Value.int IntKind.u8 (bt l 0), Value.int IntKind.u8 (bt l 1), Value.int IntKind.u8 (bt l 2), Value.int IntKind.u8 (bt l 3), Value.int IntKind.u8 (bt l 4), Value.int IntKind.u8 (bt l 5), Value.int IntKind.u8 (bt l 6), Value.int IntKind.u8 (bt l 7), Value.int IntKind.u8 (bt l 8), Value.int IntKind.u8 (bt l 9), Value.int IntKind.u8 (bt l 10), Value.int IntKind.u8 (bt l 11), Value.int IntKind.u8 (bt l 12), Value.int IntKind.u8 (bt l 13), Value.int IntKind.u8 (bt l 14), Value.int IntKind.u8 (bt l 15)]) ++ { data := { toList := [93] } }) + 1) : Int) ≤ 9223372036854775807)
def dnK4 (p : Int) : Bool := okU (IntKind.wrap IntKind.u64 p)
def dnK5 (X : Hh) (l : List UInt8) (p : Int) : Bool := decide ((↑(ByteArray.size ({ data := { toList := [91] } } ++ prB X true (bytesIn [Value.int IntKind.u8 (bt l 0), Value.int IntKind.u8 (bt l 1), Value.int IntKind.u8 (bt l 2), Value.int IntKind.u8 (bt l 3), Value.int IntKind.u8 (bt l 4), Value.int IntKind.u8 (bt l 5), Value.int IntKind.u8 (bt l 6), Value.int IntKind.u8 (bt l 7), Value.int IntKind.u8 (bt l 8), Value.int IntKind.u8 (bt l 9), Value.int IntKind.u8 (bt l 10), Value.int IntKind.u8 (bt l 11), Value.int IntKind.u8 (bt l 12), Value.int IntKind.u8 (bt l 13), Value.int IntKind.u8 (bt l 14), Value.int IntKind.u8 (bt l 15)]) ++ { data := { toList := [93] } } ++ { data := { toList := [58] } }) + ByteArray.size (tx (IntKind.wrap IntKind.u64 p))) : Int) ≤ 9223372036854775807)
def dnK6 (l : List UInt8) : Bool := prE false (bytesIn [Value.int IntKind.u8 (bt l 0), Value.int IntKind.u8 (bt l 1), Value.int IntKind.u8 (bt l 2), Value.int IntKind.u8 (bt l 3), Value.int IntKind.u8 (bt l 4), Value.int IntKind.u8 (bt l 5), Value.int IntKind.u8 (bt l 6), Value.int IntKind.u8 (bt l 7), Value.int IntKind.u8 (bt l 8), Value.int IntKind.u8 (bt l 9), Value.int IntKind.u8 (bt l 10), Value.int IntKind.u8 (bt l 11), Value.int IntKind.u8 (bt l 12), Value.int IntKind.u8 (bt l 13), Value.int IntKind.u8 (bt l 14), Value.int IntKind.u8 (bt l 15)]) != 0
def dnK7 (X : Hh) (l : List UInt8) : Bool := decide ((↑(ByteArray.size (prB X false (bytesIn [Value.int IntKind.u8 (bt l 0), Value.int IntKind.u8 (bt l 1), Value.int IntKind.u8 (bt l 2), Value.int IntKind.u8 (bt l 3), Value.int IntKind.u8 (bt l 4), Value.int IntKind.u8 (bt l 5), Value.int IntKind.u8 (bt l 6), Value.int IntKind.u8 (bt l 7), Value.int IntKind.u8 (bt l 8), Value.int IntKind.u8 (bt l 9), Value.int IntKind.u8 (bt l 10), Value.int IntKind.u8 (bt l 11), Value.int IntKind.u8 (bt l 12), Value.int IntKind.u8 (bt l 13), Value.int IntKind.u8 (bt l 14), Value.int IntKind.u8 (bt l 15)])) + 1) : Int) ≤ 9223372036854775807)
def dnK8 (X : Hh) (l : List UInt8) (p : Int) : Bool := decide ((↑(ByteArray.size (prB X false (bytesIn [Value.int IntKind.u8 (bt l 0), Value.int IntKind.u8 (bt l 1), Value.int IntKind.u8 (bt l 2), Value.int IntKind.u8 (bt l 3), Value.int IntKind.u8 (bt l 4), Value.int IntKind.u8 (bt l 5), Value.int IntKind.u8 (bt l 6), Value.int IntKind.u8 (bt l 7), Value.int IntKind.u8 (bt l 8), Value.int IntKind.u8 (bt l 9), Value.int IntKind.u8 (bt l 10), Value.int IntKind.u8 (bt l 11), Value.int IntKind.u8 (bt l 12), Value.int IntKind.u8 (bt l 13), Value.int IntKind.u8 (bt l 14), Value.int IntKind.u8 (bt l 15)]) ++ { data := { toList := [58] } }) + ByteArray.size (tx (IntKind.wrap IntKind.u64 p))) : Int) ≤ 9223372036854775807)
def dnR0 (hR : Ra) (X : Hh) (l : List UInt8) (p : Int) : Tree VR := ((ev (envD hR X) 80).call [] 9 #[ends true l p] [] B0)
def dnR1 (hR : Ra) (X : Hh) (l : List UInt8) (p : Int) : Tree VR := ((ev (envD hR X) 80).call [] 9 #[ends false l p] [] B0)
theorem enA_way (hR : Ra) (X : Hh) (l : List UInt8) (p : Int) : (dnR0 hR X l p).way [(5, true), (15, true), (0, true), (2, true), (3, true), (0, true)] = some ([dnK0 l, dnK1 X l, dnK2 X l, dnK3 X l, dnK4 p, dnK5 X l p], Value.tuple
  {
    toList :=
      [Value.string
          ({ data := { toList := [91] } } ++
                  prB X true
                    (bytesIn
                      [Value.int IntKind.u8 (bt l 0), Value.int IntKind.u8 (bt l 1), Value.int IntKind.u8 (bt l 2),
                        Value.int IntKind.u8 (bt l 3), Value.int IntKind.u8 (bt l 4), Value.int IntKind.u8 (bt l 5),
                        Value.int IntKind.u8 (bt l 6), Value.int IntKind.u8 (bt l 7), Value.int IntKind.u8 (bt l 8),
                        Value.int IntKind.u8 (bt l 9), Value.int IntKind.u8 (bt l 10), Value.int IntKind.u8 (bt l 11),
                        Value.int IntKind.u8 (bt l 12), Value.int IntKind.u8 (bt l 13), Value.int IntKind.u8 (bt l 14),
                        Value.int IntKind.u8 (bt l 15)]) ++
                { data := { toList := [93] } } ++
              { data := { toList := [58] } } ++
            tx (IntKind.wrap IntKind.u64 p)),
        Value.int IntKind.i64 0] }) := by kernel_rfl
theorem enB0_way (hR : Ra) (X : Hh) (l : List UInt8) (p : Int) : (dnR1 hR X l p).way [(5, true), (7, true)] = some ([dnK0 l, dnK6 l], Value.tuple
  {
    toList :=
      [Value.string { data := { toList := [] } },
        Value.int IntKind.i64
          (prE false
            (bytesIn
              [Value.int IntKind.u8 (bt l 0), Value.int IntKind.u8 (bt l 1), Value.int IntKind.u8 (bt l 2),
                Value.int IntKind.u8 (bt l 3), Value.int IntKind.u8 (bt l 4), Value.int IntKind.u8 (bt l 5),
                Value.int IntKind.u8 (bt l 6), Value.int IntKind.u8 (bt l 7), Value.int IntKind.u8 (bt l 8),
                Value.int IntKind.u8 (bt l 9), Value.int IntKind.u8 (bt l 10), Value.int IntKind.u8 (bt l 11),
                Value.int IntKind.u8 (bt l 12), Value.int IntKind.u8 (bt l 13), Value.int IntKind.u8 (bt l 14),
                Value.int IntKind.u8 (bt l 15)]))] }) := by kernel_rfl
theorem enB1_way (hR : Ra) (X : Hh) (l : List UInt8) (p : Int) : (dnR1 hR X l p).way [(5, true), (7, false), (7, true), (3, true), (0, true)] = some ([dnK0 l, dnK6 l, dnK7 X l, dnK4 p, dnK8 X l p], Value.tuple
  {
    toList :=
      [Value.string
          (prB X false
                (bytesIn
                  [Value.int IntKind.u8 (bt l 0), Value.int IntKind.u8 (bt l 1), Value.int IntKind.u8 (bt l 2),
                    Value.int IntKind.u8 (bt l 3), Value.int IntKind.u8 (bt l 4), Value.int IntKind.u8 (bt l 5),
                    Value.int IntKind.u8 (bt l 6), Value.int IntKind.u8 (bt l 7), Value.int IntKind.u8 (bt l 8),
                    Value.int IntKind.u8 (bt l 9), Value.int IntKind.u8 (bt l 10), Value.int IntKind.u8 (bt l 11),
                    Value.int IntKind.u8 (bt l 12), Value.int IntKind.u8 (bt l 13), Value.int IntKind.u8 (bt l 14),
                    Value.int IntKind.u8 (bt l 15)]) ++
              { data := { toList := [58] } } ++
            tx (IntKind.wrap IntKind.u64 p)),
        Value.int IntKind.i64 0] }) := by kernel_rfl
def enB (X : Hh) (v : Bool) (l : List UInt8) (p : Int) : ByteArray := bif mayL (v, l) then (bif v then ⟨⟨[91]⟩⟩ ++ X.p6 l ++ ⟨⟨[93]⟩⟩ else X.p4 l) ++ ⟨⟨[58]⟩⟩ ++ tx p else ⟨⟨[]⟩⟩
theorem one_size (c : UInt8) : (ByteArray.mk ⟨[c]⟩).size = 1 := rfl
theorem ends_call (hR : Ra) (X : Hh) (v : Bool) {l : List UInt8} (hl : l.length = 16) (p : Int) (p0 : 0 ≤ p) (p1 : p ≤ 65535) (w : World) (hw : Held w) :
    Calls Tryz.prog 9 #[ends v l p] w fun e w' => e = .returned (.tuple ⟨[.string (enB X v l p), .int .i64 (prE v l)]⟩) ∧ Below w.heap.size w w' := by
  refine calls_specK (envD hR X) hcokP 80 (v := .tuple ⟨[.string (enB X v l p), .int .i64 (prE v l)]⟩) ?_ (all_bel rfl) rfl w hw
  have k0 : dnK0 l = true := ok16_bt l
  have hw : IntKind.wrap .u64 p = p := by rw [IntKind.wrap_u64]; omega
  have k4 : dnK4 p = true := by unfold dnK4; rw [hw]; exact okU_iff.2 ⟨p0, by omega⟩
  have ht : (tx p).size ≤ 40 := tx_le (by unfold InR; omega)
  have hb : bytesIn [.int .u8 (bt l 0), .int .u8 (bt l 1), .int .u8 (bt l 2), .int .u8 (bt l 3), .int .u8 (bt l 4), .int .u8 (bt l 5), .int .u8 (bt l 6), .int .u8 (bt l 7), .int .u8 (bt l 8), .int .u8 (bt l 9), .int .u8 (bt l 10), .int .u8 (bt l 11), .int .u8 (bt l 12), .int .u8 (bt l 13), .int .u8 (bt l 14), .int .u8 (bt l 15)] = l := inB_16 hl
  have hs := fun v => prB_size X v hl
  cases v with
  | true =>
    have h1 := hs true
    have e := enA_way hR X l p
    rw [hb, hw] at e
    have k1 : dnK1 X l = true := by unfold dnK1; rw [hb]; exact decide_eq_true (by omega)
    have k2 : dnK2 X l = true := by unfold dnK2; rw [hb]; exact decide_eq_true (by rw [ByteArray.size_append, one_size]; omega)
    have k3 : dnK3 X l = true := by unfold dnK3; rw [hb]; exact decide_eq_true (by rw [ByteArray.size_append, ByteArray.size_append, one_size, one_size]; omega)
    have k5 : dnK5 X l p = true := by unfold dnK5; rw [hb, hw]; exact decide_eq_true (by rw [ByteArray.size_append, ByteArray.size_append, ByteArray.size_append, one_size, one_size, one_size]; omega)
    exact Tree.way_holds e (by rw [k0, k1, k2, k3, k4, k5]; rfl)
  | false =>
    have h1 := hs false
    cases hm : mayL (false, l) with
    | false =>
      have h2 : prE false l = 2 := by unfold prE; rw [hm]; rfl
      have h3 : enB X false l p = ⟨⟨[]⟩⟩ := by unfold enB; rw [hm]; rfl
      have k6 : dnK6 l = true := by unfold dnK6; rw [hb, h2]; rfl
      have e := enB0_way hR X l p
      rw [hb] at e
      rw [h3]
      exact Tree.way_holds e (by rw [k0, k6]; rfl)
    | true =>
      have h2 : prE false l = 0 := by unfold prE; rw [hm]; rfl
      have h4 : prB X false l = X.p4 l := by unfold prB; rw [hm]; rfl
      have h3 : enB X false l p = X.p4 l ++ ⟨⟨[58]⟩⟩ ++ tx p := by unfold enB; rw [hm]; rfl
      have k6 : dnK6 l = false := by unfold dnK6; rw [hb, h2]; rfl
      have k7 : dnK7 X l = true := by unfold dnK7; rw [hb]; exact decide_eq_true (by omega)
      have k8 : dnK8 X l p = true := by unfold dnK8; rw [hb, hw]; exact decide_eq_true (by rw [ByteArray.size_append, one_size]; omega)
      have e := enB1_way hR X l p
      rw [hb, hw, h4] at e
      rw [h2, h3]
      exact Tree.way_holds e (by rw [k0, k6, k7, k4, k8]; rfl)
def endsS (X : Hh) : Array Value → Option (Bool × Value)
  | ⟨[.agg ⟨[.bool v, v0, v1, v2, v3, v4, v5, v6, v7, v8, v9, v10, v11, v12, v13, v14, v15, .int .u16 p]⟩]⟩ => some (ok16 [v0, v1, v2, v3, v4, v5, v6, v7, v8, v9, v10, v11, v12, v13, v14, v15] && (decide (0 ≤ p) && decide (p ≤ 65535)), .tuple ⟨[.string (enB X v (bytesIn [v0, v1, v2, v3, v4, v5, v6, v7, v8, v9, v10, v11, v12, v13, v14, v15]) p), .int .i64 (prE v (bytesIn [v0, v1, v2, v3, v4, v5, v6, v7, v8, v9, v10, v11, v12, v13, v14, v15]))]⟩)
  | _ => none
theorem ends_of {v0 v1 v2 v3 v4 v5 v6 v7 v8 v9 v10 v11 v12 v13 v14 v15 : Value} (h : ok16 [v0, v1, v2, v3, v4, v5, v6, v7, v8, v9, v10, v11, v12, v13, v14, v15] = true) : ∃ l : List UInt8, l.length = 16 ∧ bytesIn [v0, v1, v2, v3, v4, v5, v6, v7, v8, v9, v10, v11, v12, v13, v14, v15] = l ∧ ∀ v p, Value.agg ⟨[.bool v, v0, v1, v2, v3, v4, v5, v6, v7, v8, v9, v10, v11, v12, v13, v14, v15, .int .u16 p]⟩ = ends v l p := by
  obtain ⟨l, h1, h2, h3, _⟩ := ok16_of h
  refine ⟨l, h1, h2, fun v p => ?_⟩
  unfold arr at h3
  simp only [Value.agg.injEq, Array.mk.injEq, List.cons.injEq, and_true] at h3
  obtain ⟨e0, e1, e2, e3, e4, e5, e6, e7, e8, e9, e10, e11, e12, e13, e14, e15⟩ := h3
  unfold ends
  rw [e0, e1, e2, e3, e4, e5, e6, e7, e8, e9, e10, e11, e12, e13, e14, e15]
def pkEnds (hR : Ra) (X : Hh) : PK Tryz.prog where
  f := 9
  spec := endsS X
  body := by kernel_rfl
  ok := fun args r hr hok => by
    unfold endsS at hr
    split at hr
    · cases hr
      dsimp only at hok
      rw [Bool.and_eq_true, Bool.and_eq_true, decide_eq_true_eq, decide_eq_true_eq] at hok
      obtain ⟨hok, p0, p1⟩ := hok
      obtain ⟨l, h1, h2, h4⟩ := ends_of hok
      rw [h4, h2]
      exact ⟨all_bel rfl, rfl, fun w hw => ends_call hR X _ h1 _ p0 p1 w hw⟩
    · cases hr
end

end Go.Proofs.YtmfdnbjmfgljlaaGreatDoor


/-
  bytes.Compare, of two slices of bytes: its contract, and as an oracle.
-/


namespace Go.Proofs.YtmfdnbjmfgljlaaGreatDoor

open Go.Den Go.RowKit
noncomputable section
set_option maxRecDepth 100000

set_option linter.unusedSectionVars false

theorem run_loadBytes (w : World) (blk : Nat) : ∀ (bs : List UInt8) (off : Nat) (acc : List UInt8), (∀ (j : Nat) x, bs[j]? = some x → w.cell? ⟨blk, off + j, none⟩ = some (u8 x)) →
    (Extern.Bytes.loadBytes ⟨blk, off, none⟩ bs.length ⟨acc.toArray⟩).run Tryz.prog w = .ok ⟨(acc ++ bs).toArray⟩ w
  | [], off, acc, _ => by
    rw [List.append_nil]; rfl
  | x :: bs, off, acc, h => by
    have h0 := h 0 x rfl
    rw [Nat.add_zero] at h0
    rw [List.length_cons]
    unfold Extern.Bytes.loadBytes
    rw [Sem.run_bind]
    simp only [run_load, h0, Result.andThen_ok]
    have e1 : (ByteArray.mk acc.toArray).push ((x.toNat : Int).toNat.toUInt8) = ⟨(acc ++ [x]).toArray⟩ := by
      have : ((x.toNat : Int).toNat.toUInt8) = x := by simp [Nat.toUInt8]
      rw [this]
      show (⟨acc.toArray.push x⟩ : ByteArray) = _
      rw [List.push_toArray]
    have ih := run_loadBytes w blk bs (off + 1) (acc ++ [x]) (fun j y hy => by
      have := h (j + 1) y hy
      rwa [show off + 1 + j = off + (j + 1) by omega])
    show (Extern.Bytes.loadBytes (Addr.add ⟨blk, off, none⟩ 1) bs.length ((ByteArray.mk acc.toArray).push ((x.toNat : Int).toNat.toUInt8))).run Tryz.prog w = _
    rw [e1]
    have e2 : Addr.add ⟨blk, off, none⟩ 1 = ⟨blk, off + 1, none⟩ := rfl
    rw [e2, ih, List.append_assoc]; rfl
theorem run_cmp (w : World) (b1 o1 c1 b2 o2 c2 : Nat) (x y : List UInt8) (h1 : ∀ (j : Nat) v, x[j]? = some v → w.cell? ⟨b1, o1 + j, none⟩ = some (u8 v)) (h2 : ∀ (j : Nat) v, y[j]? = some v → w.cell? ⟨b2, o2 + j, none⟩ = some (u8 v)) :
    (Extern.BytealgCompare.compare #[.slice (some ⟨b1, o1, none⟩) x.length c1, .slice (some ⟨b2, o2, none⟩) y.length c2]).run Tryz.prog w = .ok (.int .i64 (Lib.compareBytes x y)) w := by
  have e1 := run_loadBytes w b1 x o1 [] h1
  have e2 := run_loadBytes w b2 y o2 [] h2
  change Sem.run Tryz.prog (do pure (goInt (Extern.BytealgCompare.cmp (← Extern.Bytes.loadBytes ⟨b1, o1, none⟩ x.length ⟨#[]⟩) (← Extern.Bytes.loadBytes ⟨b2, o2, none⟩ y.length ⟨#[]⟩)))) w = _
  rw [Sem.run_bind, e1]
  simp only [Result.andThen_ok]
  rw [Sem.run_bind, e2]
  simp only [Result.andThen_ok]
  rw [Lib.cmp_eq]
  rfl
theorem compare_call (b1 o1 c1 b2 o2 c2 : Nat) (x y : List UInt8) (w : World) (h1 : ∀ (j : Nat) v, x[j]? = some v → w.cell? ⟨b1, o1 + j, none⟩ = some (u8 v)) (h2 : ∀ (j : Nat) v, y[j]? = some v → w.cell? ⟨b2, o2 + j, none⟩ = some (u8 v)) :
    Calls Tryz.prog 23 #[.slice (some ⟨b1, o1, none⟩) x.length c1, .slice (some ⟨b2, o2, none⟩) y.length c2] w fun e w' => e = .returned (.int .i64 (Lib.compareBytes x y)) ∧ w' = w := by
  have hc := run_cmp w b1 o1 c1 b2 o2 c2 x y h1 h2
  clear h1 h2
  go_enter Tryz.func23, Tryz.ntmps23
  go_wp2
  rw [run_callFunc_extern Tryz.func47 (by kernel_rfl) (by kernel_rfl) (by kernel_rfl) (e := Extern.BytealgCompare.compare) (by kernel_rfl), hc]
  simp only [Result.andThen]
  rw [Oper.upon_value]
  go_wp2
  go_ret
  exact ⟨rfl, rfl⟩
end

end Go.Proofs.YtmfdnbjmfgljlaaGreatDoor


/-
  Contracts as oracles: bytes.Compare.
-/

namespace Go.Proofs.YtmfdnbjmfgljlaaGreatDoor

open Go.Den Go.RowKit
noncomputable section
set_option maxRecDepth 100000

set_option linter.unusedSectionVars false

variable [Inhabited Root]

def cmpV (a b : List Value) : Int := Lib.compareBytes (bytesIn a) (bytesIn b)
section

variable [Inhabited Names]

def cmpOrc (g : AHeap) (args : Array Value) (h : AHeap) (nx : Nat) : Option (Tree VR) :=
  match args with
  | ⟨[.slice (some ⟨b1, o1, none⟩) n1 _, .slice (some ⟨b2, o2, none⟩) n2 _]⟩ => match Den.look g h b1, Den.look g h b2 with
    | some B1, some B2 => some (.br ((Nat.ble (o1 + n1) B1.cells.size && allV isB8 (fext B1.cells o1 (o1 + n1)).toList) && (Nat.ble (o2 + n2) B2.cells.size && allV isB8 (fext B2.cells o2 (o2 + n2)).toList))
        (.leaf ⟨.int .i64 (cmpV (fext B1.cells o1 (o1 + n1)).toList (fext B2.cells o2 (o2 + n2)).toList), h, nx⟩) .fail)
    | _, _ => none
  | _ => none
def pmCmp : PM Tryz.prog where
  f := 23
  orc := fun g args h nx => cmpOrc g args h nx
  body := by kernel_rfl
  ok := fun g args h nx t r ho hr => by
    unfold cmpOrc at ho
    split at ho
    · rename_i b1 o1 n1 c1 b2 o2 n2 c2
      split at ho
      · rename_i B1 B2 k1 k2
        cases ho
        obtain ⟨hok, hr⟩ := Tree.run_guard hr
        cases hr
        simp only [Bool.and_eq_true, Nat.ble_eq] at hok
        obtain ⟨⟨h1, h2⟩, h3, h4⟩ := hok
        refine satCall_val rfl fun ρ w R _ => ?_
        have e1 : (⟨[.slice (some ⟨b1, o1, none⟩) n1 c1, .slice (some ⟨b2, o2, none⟩) n2 c2]⟩ : Array Value).map (ren ρ) = #[.slice (some ⟨ρ b1, o1, none⟩) n1 (ρ c1), .slice (some ⟨ρ b2, o2, none⟩) n2 (ρ c2)] := by simp [ren]
        rw [e1]
        obtain ⟨hB1, _, _⟩ := R.look k1
        obtain ⟨hB2, _, _⟩ := R.look k2
        have hb1 := bytesIn_eq h2
        have hb2 := bytesIn_eq h4
        have hl1 : (bytesIn (fext B1.cells o1 (o1 + n1)).toList).length = n1 := by unfold bytesIn; rw [List.length_map, fext_len h1]
        have hl2 : (bytesIn (fext B2.cells o2 (o2 + n2)).toList).length = n2 := by unfold bytesIn; rw [List.length_map, fext_len h3]
        have hc := compare_call (ρ b1) o1 (ρ c1) (ρ b2) o2 (ρ c2) _ _ w (fun j x hx => by
          have hx2 : (fext B1.cells o1 (o1 + n1)).toList[j]? = some (u8 x) := by rw [hb1, List.getElem?_map, hx]; rfl
          obtain ⟨hj, hc⟩ := fext_get hx2
          rw [hB1.cell (by omega), hc]; rfl) (fun j x hx => by
          have hx2 : (fext B2.cells o2 (o2 + n2)).toList[j]? = some (u8 x) := by rw [hb2, List.getElem?_map, hx]; rfl
          obtain ⟨hj, hc⟩ := fext_get hx2
          rw [hB2.cell (by omega), hc]; rfl)
        rw [hl1, hl2] at hc
        refine hc.mono ?_
        rintro e w' ⟨rfl, rfl⟩
        exact ⟨rfl, Below.refl _ _⟩
      · cases ho
    · cases ho
end

def memsE [Inhabited Names] (hR : Ra) (X : Hh) : List (PM Tryz.prog) := pmCmp :: (pkEnds hR X).mem :: memsD hR X
def envE [Inhabited Names] (hR : Ra) (X : Hh) : Env Tryz.prog := envS.mem false (memsE hR X)
end

end Go.Proofs.YtmfdnbjmfgljlaaGreatDoor
