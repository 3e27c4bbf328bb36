/-
  Own texts, merged: WMath TxA FtA FtB Kit FtC FtD FtK FtL FtM FtE FtF FtG FtH FtI FtJ FtN FtO DenA DenB DenC
-/
import Derived.Lib.ItoaNum
import Derived.Lib.ItoaMem
import Derived.Lib.Strings
import Derived.Lib.SplitLaws
import Derived.Lib.IndexMore
import Derived.Lib.SlTrimSet
import Derived.Test.YtidkpdabidlnnaaGreatDoorChecked
import Derived.WalkKit
import Derived.LaidEql
import Derived.Stop.Asserts
import Derived.RowKitTokens
import Derived.Test.YtidkpdabidlnnaaGreatDoorRows
import Derived.WalkSpells
import Derived.ProofKit
import Derived.OpenShut
import Derived.Lib.Hide
import Derived.OneCell
import Derived.BigQuiet
import Derived.Deep.QuietTactic
import Derived.Deep.RegionHeld3
import Derived.Deep.DrawnRows
import Derived.Deep.DeepCutAuto
import Derived.Laws.Externs
import Derived.IntWalk
import Derived.Laws.AppendOwn
import Derived.Laws.OwnMore
import Derived.OwnWalk
import Derived.Deep.AppendLies
import Derived.Shelf.Abstract
import Derived.Laws.IdiomCopy
import Derived.Deep.MidRow
import Derived.Scope
import Derived.Orders
import Derived.Laws.StructEq
import Derived.Laws.Entries
import Derived.ChangeKeysEq


/-
  Plain arithmetic of numbers of 128 bits: a number of the range and its two halves. No program is named here.
-/
namespace Go.Proofs.YtidkpdabidlnnaaGreatDoor

/-- 2^64 and 2^127, the numbers of the range. -/
def hi (n : Int) : Int := n / 18446744073709551616
def lo (n : Int) : Int := n % 18446744073709551616
def InR (n : Int) : Prop := -170141183460469231731687303715884105728 ≤ n ∧ n ≤ 170141183460469231731687303715884105727
/-- What saturates. -/
def clamp (n : Int) : Int := if n < -170141183460469231731687303715884105728 then -170141183460469231731687303715884105728 else if 170141183460469231731687303715884105727 < n then 170141183460469231731687303715884105727 else n

theorem hilo (n : Int) : hi n * 18446744073709551616 + lo n = n := by unfold hi lo; omega
theorem lo_bd (n : Int) : 0 ≤ lo n ∧ lo n ≤ 18446744073709551615 := by unfold lo; omega
theorem hi_bd {n : Int} (h : InR n) : -9223372036854775808 ≤ hi n ∧ hi n ≤ 9223372036854775807 := by
  unfold InR at h; unfold hi; omega
theorem hi_of {h l n : Int} (h0 : 0 ≤ l) (h1 : l ≤ 18446744073709551615) (e : h * 18446744073709551616 + l = n) : hi n = h := by
  unfold hi; omega
theorem lo_of {h l n : Int} (h0 : 0 ≤ l) (h1 : l ≤ 18446744073709551615) (e : h * 18446744073709551616 + l = n) : lo n = l := by
  unfold lo; omega
theorem inR_of {h l : Int} (h0 : 0 ≤ l) (h1 : l ≤ 18446744073709551615) (g0 : -9223372036854775808 ≤ h) (g1 : h ≤ 9223372036854775807) : InR (h * 18446744073709551616 + l) := by
  unfold InR; omega
theorem hilo_inj {a b : Int} (h : hi a = hi b) (l : lo a = lo b) : a = b := by
  have := hilo a; have := hilo b; rw [h, l] at *; omega
theorem clamp_in (n : Int) : InR (clamp n) := by unfold InR clamp; split <;> (try split) <;> omega
theorem clamp_of {n : Int} (h : InR n) : clamp n = n := by unfold InR at h; unfold clamp; rw [if_neg (by omega), if_neg (by omega)]
theorem hi_neg (n : Int) : hi n < 0 ↔ n < 0 := by unfold hi; omega
end Go.Proofs.YtidkpdabidlnnaaGreatDoor


/-
  Plain facts of decimal numerals: what is told of a number, and what is read of a text. No program is named here.
-/




namespace Go.Proofs.YtidkpdabidlnnaaGreatDoor

open Go.Lib

def isDig (c : UInt8) : Bool := decide (48 ≤ c.toNat) && decide (c.toNat ≤ 57)
/-- A digit more, of a number's sign; what saturates. -/
def uwNext (neg : Bool) (w : Int) (d : Int) : Int := clamp (clamp (w * 10) + (if neg then -d else d))
def uwGo (neg : Bool) : List UInt8 → Int → Option Int
  | [], w => some w
  | c :: r, w => if isDig c then uwGo neg r (uwNext neg w ((c.toNat : Int) - 48)) else none
/-- The wide number of a text. -/
def uwS (l : List UInt8) : Option Int := if 40 < l.length then none else (uwGo (hasPrefix l [45]) (trimPrefix l [45]) 0).bind fun w => if itoa w = l then some w else none
def udS (l : List UInt8) : Option Int := (uwS l).bind fun w => if -9223372036854775808 ≤ w ∧ w ≤ 9223372036854775807 then some w else none
def uuS (l : List UInt8) : Option Int := (uwS l).bind fun w => if 0 ≤ w ∧ w ≤ 18446744073709551615 then some w else none

theorem uwGo_app (neg : Bool) : ∀ (a b : List UInt8) (w : Int), uwGo neg (a ++ b) w = (uwGo neg a w).bind (uwGo neg b)
  | [], b, w => rfl
  | c :: r, b, w => by
    simp only [List.cons_append, uwGo]
    split
    · exact uwGo_app neg r b _
    · rfl
theorem uwGo_in (neg : Bool) : ∀ (a : List UInt8) (w v : Int), InR w → uwGo neg a w = some v → InR v
  | [], w, v, h, e => by simp only [uwGo, Option.some.injEq] at e; subst e; exact h
  | c :: r, w, v, h, e => by
    simp only [uwGo] at e
    split at e
    · exact uwGo_in neg r _ v (clamp_in _) e
    · cases e
theorem uwGo_bad (neg : Bool) : ∀ (a b : List UInt8) (c : UInt8) (w : Int), isDig c = false → uwGo neg (a ++ c :: b) w = none
  | [], b, c, w, h => by simp [uwGo, h]
  | x :: r, b, c, w, h => by
    simp only [List.cons_append, uwGo]
    split
    · exact uwGo_bad neg r b c _ h
    · rfl
def svN (neg : Bool) (u : Nat) : Int := if neg then -(u : Int) else u
theorem dig_nat {d : Nat} (h : d < 10) : (UInt8.ofNat (48 + d)).toNat = 48 + d := by simp; omega
theorem isDig_of {d : Nat} (h : d < 10) : isDig (UInt8.ofNat (48 + d)) = true := by
  unfold isDig; rw [dig_nat h]; simp; omega
theorem decDigits_dig : ∀ (u : Nat), ∀ c ∈ decDigits u, isDig c = true := by
  intro u
  induction u using Nat.strongRecOn with
  | _ u ih =>
    intro c hc
    rw [decDigits] at hc
    split at hc
    · rw [List.mem_singleton] at hc; subst hc; exact isDig_of (by omega)
    · rcases List.mem_append.1 hc with h | h
      · exact ih (u / 10) (by omega) c h
      · rw [List.mem_singleton] at h; subst h; exact isDig_of (by omega)
theorem svN_in {neg : Bool} {u v : Nat} (h : InR (svN neg u)) (hv : v ≤ u) : InR (svN neg v) := by
  unfold InR svN at *; cases neg <;> simp at h ⊢ <;> omega
theorem uwNext_svN {neg : Bool} {u : Nat} (h : InR (svN neg u)) : uwNext neg (svN neg (u / 10)) ((u % 10 : Nat) : Int) = svN neg u := by
  have h1 : InR (svN neg (u / 10) * 10) := by unfold InR svN at *; cases neg <;> simp at h ⊢ <;> omega
  unfold uwNext
  rw [clamp_of h1]
  have e : svN neg (u / 10) * 10 + (if neg then -((u % 10 : Nat) : Int) else ((u % 10 : Nat) : Int)) = svN neg u := by unfold svN; cases neg <;> simp <;> omega
  rw [e, clamp_of h]
theorem svN_zero (neg : Bool) : svN neg 0 = 0 := by unfold svN; split <;> rfl
theorem uwGo_dec (neg : Bool) : ∀ (u : Nat), InR (svN neg u) → uwGo neg (decDigits u) 0 = some (svN neg u) := by
  intro u
  induction u using Nat.strongRecOn with
  | _ u ih =>
    intro h
    rw [decDigits]
    split
    · rename_i hu
      have := uwNext_svN h
      rw [show u / 10 = 0 by omega, svN_zero, show u % 10 = u by omega] at this
      simp only [uwGo, isDig_of hu, if_true, dig_nat hu]
      rw [show (((48 + u : Nat) : Int) - 48) = (u : Int) by omega, this]
    · rename_i hu
      rw [uwGo_app, ih (u / 10) (by omega) (svN_in h (by omega))]
      have h2 : u % 10 < 10 := Nat.mod_lt _ (by decide)
      simp only [Option.bind_some, uwGo, isDig_of h2, if_true, dig_nat h2]
      rw [show (((48 + u % 10 : Nat) : Int) - 48) = ((u % 10 : Nat) : Int) by omega, uwNext_svN h]
theorem nDigits_le : ∀ (k u : Nat), u < 10 ^ (k + 1) → nDigits u ≤ k + 1
  | 0, u, h => by rw [nDigits_small (by simpa using h)]; exact Nat.le_refl _
  | k + 1, u, h => by
    by_cases hu : u < 10
    · rw [nDigits_small hu]; omega
    · rw [nDigits_big hu]
      have := nDigits_le k (u / 10) (by rw [Nat.pow_succ] at h; omega)
      omega
theorem nDigits_mono : ∀ (b a : Nat), a ≤ b → nDigits a ≤ nDigits b := by
  intro b
  induction b using Nat.strongRecOn with
  | _ b ih =>
    intro a h
    by_cases ha : a < 10
    · rw [nDigits_small ha]; exact nDigits_pos b
    · rw [nDigits_big ha, nDigits_big (show ¬ b < 10 by omega)]
      have := ih (b / 10) (by omega) (a / 10) (by omega)
      omega
theorem itoa_len {n : Int} (h : InR n) : (itoa n).length ≤ 40 := by
  unfold InR at h
  unfold itoa
  split
  · rw [List.length_cons, decDigits_length]
    have := nDigits_le 38 n.natAbs (by omega)
    omega
  · rw [decDigits_length]
    have := nDigits_le 38 n.toNat (by omega)
    omega
theorem decDigits_ne (u : Nat) : decDigits u ≠ [] := by
  intro h
  have h1 := decDigits_length u
  rw [h] at h1
  have := nDigits_pos u
  simp at h1; omega
theorem dec_noMinus (u : Nat) : hasPrefix (decDigits u) [45] = false := by
  cases h : decDigits u with
  | nil => rfl
  | cons c r =>
    have hc := decDigits_dig u c (by rw [h]; exact List.mem_cons_self)
    unfold hasPrefix
    simp only [List.isPrefixOf, Bool.and_true]
    rw [beq_eq_false_iff_ne]
    rintro rfl
    simp [isDig] at hc
theorem uw_itoa {n : Int} (h : InR n) : uwS (itoa n) = some n := by
  have hl := itoa_len h
  unfold uwS
  rw [if_neg (by omega)]
  have key : uwGo (hasPrefix (itoa n) [45]) (trimPrefix (itoa n) [45]) 0 = some n := by
    rcases (by omega : n < 0 ∨ 0 ≤ n) with hn | hn
    · have e : itoa n = 45 :: decDigits n.natAbs := by unfold itoa; rw [if_pos hn]
      have e2 : hasPrefix (itoa n) [45] = true := by rw [e]; simp [hasPrefix, List.isPrefixOf]
      have e3 : svN true n.natAbs = n := by unfold svN; simp; omega
      unfold trimPrefix
      rw [e2, if_pos rfl, e]
      have := uwGo_dec true n.natAbs (by rw [e3]; exact h)
      rw [e3] at this
      exact this
    · have e : itoa n = decDigits n.toNat := by unfold itoa; rw [if_neg (by omega)]
      have e2 : hasPrefix (itoa n) [45] = false := by rw [e]; exact dec_noMinus _
      have e3 : svN false n.toNat = n := by unfold svN; simp; omega
      unfold trimPrefix
      rw [e2, if_neg (by simp), e]
      have := uwGo_dec false n.toNat (by rw [e3]; exact h)
      rw [e3] at this
      exact this
  rw [key]
  simp
theorem zero_in : InR 0 := by unfold InR; omega
theorem uw_some {l : List UInt8} {w : Int} (h : uwS l = some w) : itoa w = l ∧ InR w := by
  unfold uwS at h
  split at h
  · cases h
  · rw [Option.bind_eq_some_iff] at h
    obtain ⟨v, h1, h2⟩ := h
    split at h2
    · rename_i e
      cases h2
      exact ⟨e, uwGo_in _ _ _ _ zero_in h1⟩
    · cases h2
theorem ud_some {l : List UInt8} {w : Int} (h : udS l = some w) : itoa w = l ∧ -9223372036854775808 ≤ w ∧ w ≤ 9223372036854775807 := by
  unfold udS at h
  rw [Option.bind_eq_some_iff] at h
  obtain ⟨v, h1, h2⟩ := h
  split at h2
  · rename_i e
    cases h2
    exact ⟨(uw_some h1).1, e⟩
  · cases h2
theorem uu_some {l : List UInt8} {w : Int} (h : uuS l = some w) : itoa w = l ∧ 0 ≤ w ∧ w ≤ 18446744073709551615 := by
  unfold uuS at h
  rw [Option.bind_eq_some_iff] at h
  obtain ⟨v, h1, h2⟩ := h
  split at h2
  · rename_i e
    cases h2
    exact ⟨(uw_some h1).1, e⟩
  · cases h2
theorem ud_itoa {n : Int} (h0 : -9223372036854775808 ≤ n) (h1 : n ≤ 9223372036854775807) : udS (itoa n) = some n := by
  unfold udS
  rw [uw_itoa (by unfold InR; omega), Option.bind_some, if_pos ⟨h0, h1⟩]
theorem uu_itoa {n : Int} (h0 : 0 ≤ n) (h1 : n ≤ 18446744073709551615) : uuS (itoa n) = some n := by
  unfold uuS
  rw [uw_itoa (by unfold InR; omega), Option.bind_some, if_pos ⟨h0, h1⟩]
theorem itoa_shorter {a b : Int} (ha : 0 ≤ a) (hb : 0 ≤ b) (h : (itoa a).length < (itoa b).length) : a < b := by
  rcases Int.lt_or_le a b with h1 | h1
  · exact h1
  · unfold itoa at h
    rw [if_neg (by omega), if_neg (by omega), decDigits_length, decDigits_length] at h
    have := nDigits_mono a.toNat b.toNat (by omega)
    omega
/-- A great number's numeral: that of its upper part, and its last digits. -/
theorem dec_pad : ∀ (k a b : Nat), b < 10 ^ (k + 1) → 0 < a → decDigits (a * 10 ^ (k + 1) + b) = decDigits a ++ (List.replicate (k + 1 - nDigits b) 48 ++ decDigits b) := by
  intro k
  induction k with
  | zero =>
    intro a b h ha
    have hb : b < 10 := by simpa using h
    rw [decDigits, dif_neg (by omega), nDigits_small hb, decDigits_one hb]
    rw [show (a * 10 ^ (0 + 1) + b) / 10 = a by omega, show (a * 10 ^ (0 + 1) + b) % 10 = b by omega]
    rfl
  | succ k ih =>
    intro a b h ha
    have hp : a * 10 ^ (k + 1 + 1) = a * 10 ^ (k + 1) * 10 := by rw [Nat.pow_succ (n := 10) (m := k + 1), ← Nat.mul_assoc]
    have hq : 1 ≤ a * 10 ^ (k + 1) := Nat.mul_pos ha (Nat.one_le_pow _ _ (by decide))
    have h' : b / 10 < 10 ^ (k + 1) := by rw [Nat.pow_succ] at h; omega
    have ih' := ih a (b / 10) h' ha
    rw [hp]
    generalize a * 10 ^ (k + 1) = q at *
    rw [decDigits, dif_neg (by omega), show (q * 10 + b) / 10 = q + b / 10 by omega, show (q * 10 + b) % 10 = b % 10 by omega, ih', List.append_assoc, List.append_assoc]
    congr 1
    by_cases hb : b < 10
    · rw [show b / 10 = 0 by omega, nDigits_small (show 0 < 10 by omega), nDigits_small hb, decDigits_one hb, show b % 10 = b by omega, decDigits_one (show 0 < 10 by omega)]
      simp only [Nat.add_sub_cancel]
      rw [show (UInt8.ofNat (48 + 0)) = (48 : UInt8) from rfl, ← List.append_assoc, ← List.replicate_succ' (n := k)]
    · rw [nDigits_big hb, show k + 1 + 1 - (nDigits (b / 10) + 1) = k + 1 - nDigits (b / 10) by omega]
      congr 1
      conv => rhs; rw [decDigits, dif_neg hb]
end Go.Proofs.YtidkpdabidlnnaaGreatDoor


/-
  Plain facts of an error's line: words, kind, place; what is read of a text. No program is named here.
-/




namespace Go.Proofs.YtidkpdabidlnnaaGreatDoor

open Go.Lib

def okc (c : UInt8) : Bool := (decide (97 ≤ c.toNat) && decide (c.toNat ≤ 122)) || (decide (48 ≤ c.toNat) && decide (c.toNat ≤ 57)) || decide (c.toNat = 45)
def wordOk (l : List UInt8) : Bool := decide (1 ≤ l.length) && decide (l.length ≤ 32) && l.all okc
def wordF (l : List UInt8) : List UInt8 := if wordOk l then l else [63]
def kindS : List UInt8 := [107, 105, 110, 100, 32]
def atS : List UInt8 := [32, 97, 116, 32]
/-- A fault's line. -/
def faultS (k o : Int) : List UInt8 := kindS ++ (itoa k ++ (atS ++ itoa o))
/-- A line: the words' notes, the fault. -/
def lineF (ws : List (List UInt8)) (k o : Int) : List UInt8 := (ws.flatMap fun w => w ++ [58, 32]) ++ faultS k o
def In64 (v : Int) : Prop := -9223372036854775808 ≤ v ∧ v ≤ 9223372036854775807
structure GoodF (ws : List (List UInt8)) (k o : Int) : Prop where
  few : ws.length ≤ 8
  words : ∀ w ∈ ws, wordF w = w
  kind : k ≠ 0
  ink : In64 k
  ino : In64 o

theorem wordF_idem (l : List UInt8) : wordF (wordF l) = wordF l := by
  by_cases h : wordOk l = true
  · have e : wordF l = l := if_pos h
    rw [e, e]
  · have e : wordF l = [63] := if_neg h
    rw [e]; rfl
theorem wordF_len (l : List UInt8) : (wordF l).length ≤ 32 := by
  unfold wordF
  split
  · rename_i h; unfold wordOk at h; simp only [Bool.and_eq_true, decide_eq_true_eq] at h; exact h.1.2
  · decide
theorem wordF_no58 (l : List UInt8) : ∀ c ∈ wordF l, c ≠ 58 := by
  intro c hc
  unfold wordF at hc
  split at hc
  · rename_i h
    unfold wordOk at h
    simp only [Bool.and_eq_true] at h
    have := List.all_eq_true.1 h.2 c hc
    rintro rfl
    revert this; decide
  · rw [List.mem_singleton] at hc
    subst hc; decide
theorem word_no58 {l : List UInt8} (h : wordF l = l) : ∀ c ∈ l, c ≠ 58 := by
  have := wordF_no58 l; rw [h] at this; exact this

/-! ### Numbers -/
def stepW (n : Nat) (c : UInt8) : Nat := (10 * n + c.toNat + 18446744073709551568) % 18446744073709551616
def numW (l : List UInt8) (n : Nat) : Nat := l.foldl stepW n
def sgn64 (n : Nat) : Int := if n < 9223372036854775808 then (n : Int) else (n : Int) - 18446744073709551616
theorem numW_app (a b : List UInt8) (n : Nat) : numW (a ++ b) n = numW b (numW a n) := List.foldl_append
theorem stepW_lt (n : Nat) (c : UInt8) : stepW n c < 18446744073709551616 := by unfold stepW; omega
theorem numW_cons (c : UInt8) (a : List UInt8) (n : Nat) : numW (c :: a) n = numW a (stepW n c) := List.foldl_cons ..
theorem numW_nil (n : Nat) : numW [] n = n := List.foldl_nil ..
theorem numW_lt (a : List UInt8) : ∀ (n : Nat), n < 18446744073709551616 → numW a n < 18446744073709551616 := by
  induction a with
  | nil => intro n h; rw [numW_nil]; exact h
  | cons c a ih => intro n _; rw [numW_cons]; exact ih _ (stepW_lt n c)
theorem stepW_dig {n d : Nat} (hd : d < 10) (h : 10 * n + d < 18446744073709551616) : stepW n (UInt8.ofNat (48 + d)) = 10 * n + d := by
  unfold stepW
  rw [dig_nat hd]; omega
theorem numW_dec : ∀ (u : Nat), u < 18446744073709551616 → numW (decDigits u) 0 = u := by
  intro u
  induction u using Nat.strongRecOn with
  | _ u ih =>
    intro h
    rw [decDigits]
    split
    · rename_i hu
      rw [numW_cons, numW_nil, stepW_dig hu (by omega)]; omega
    · rename_i hu
      have h2 : u % 10 < 10 := Nat.mod_lt _ (by decide)
      rw [numW_app, ih (u / 10) (by omega) (by omega), numW_cons, numW_nil, stepW_dig h2 (by omega)]; omega
theorem sgn64_in {n : Nat} (h : n < 18446744073709551616) : In64 (sgn64 n) := by
  unfold In64 sgn64; split <;> omega
def isNeg (l : List UInt8) : Bool := hasPrefix l [45]
def digsR (l : List UInt8) : List UInt8 := if isNeg l then ((l.drop 1).takeWhile isDig).take 24 else (l.takeWhile isDig).take 25
def textR (l : List UInt8) : List UInt8 := if isNeg l then 45 :: digsR l else digsR l
def valR (l : List UInt8) : Int := if isNeg l then sgn64 ((18446744073709551616 - numW (digsR l) 0) % 18446744073709551616) else sgn64 (numW (digsR l) 0)
/-- A number at a text's beginning, and what is behind it. -/
def readR (l : List UInt8) : Option (Int × List UInt8) := if itoa (valR l) = textR l then some (valR l, l.drop (textR l).length) else none
theorem valR_in (l : List UInt8) : In64 (valR l) := by
  unfold valR
  split
  · exact sgn64_in (Nat.mod_lt _ (by decide))
  · exact sgn64_in (numW_lt _ _ (by decide))
theorem neg_cons {l : List UInt8} (h : isNeg l = true) : l = 45 :: l.drop 1 := by
  cases l with
  | nil => cases h
  | cons c r =>
    unfold isNeg hasPrefix at h
    simp only [List.isPrefixOf, Bool.and_true, beq_iff_eq] at h
    rw [← h]; rfl
theorem takeW_take {l : List UInt8} (n : Nat) : ∃ r, l = (l.takeWhile isDig).take n ++ r := by
  refine ⟨(l.takeWhile isDig).drop n ++ l.dropWhile isDig, ?_⟩
  rw [← List.append_assoc, List.take_append_drop, List.takeWhile_append_dropWhile]
theorem textR_pre (l : List UInt8) : l = textR l ++ l.drop (textR l).length := by
  have key : ∃ r, l = textR l ++ r := by
    unfold textR digsR
    cases h : isNeg l with
    | true =>
      obtain ⟨r, hr⟩ := takeW_take (l := l.drop 1) 24
      refine ⟨r, ?_⟩
      simp only [if_true]
      conv => lhs; rw [neg_cons h]
      rw [List.cons_append]
      exact congrArg _ hr
    | false =>
      obtain ⟨r, hr⟩ := takeW_take (l := l) 25
      exact ⟨r, by simpa using hr⟩
  obtain ⟨r, hr⟩ := key
  obtain ⟨t, ht⟩ : ∃ t, textR l = t := ⟨_, rfl⟩
  rw [ht] at hr ⊢
  rw [hr, List.drop_left]
theorem readR_some {l r : List UInt8} {v : Int} (h : readR l = some (v, r)) : l = itoa v ++ r ∧ In64 v := by
  unfold readR at h
  split at h
  · rename_i he
    cases h
    exact ⟨by rw [he]; exact textR_pre l, valR_in l⟩
  · cases h
theorem dec_len20 {u : Nat} (h : u < 18446744073709551616) : (decDigits u).length ≤ 20 := by
  rw [decDigits_length]; exact nDigits_le 19 u (by omega)
theorem takeW_dec (u : Nat) {r : List UInt8} (hr : ∀ c, r.head? = some c → isDig c = false) : (decDigits u ++ r).takeWhile isDig = decDigits u := by
  rw [List.takeWhile_append_of_pos (decDigits_dig u)]
  have : r.takeWhile isDig = [] := by
    cases r with
    | nil => rfl
    | cons c r => rw [List.takeWhile_cons_of_neg (by rw [hr c rfl]; simp)]
  rw [this, List.append_nil]
theorem neg_dec (u : Nat) (r : List UInt8) : isNeg (decDigits u ++ r) = false := by
  have := dec_noMinus u
  have hne := decDigits_ne u
  cases h : decDigits u with
  | nil => exact absurd h hne
  | cons c t =>
    rw [h] at this
    unfold isNeg; unfold hasPrefix at *
    simpa [List.isPrefixOf] using this
theorem readR_itoa {v : Int} (h : In64 v) {r : List UInt8} (hr : ∀ c, r.head? = some c → isDig c = false) : readR (itoa v ++ r) = some (v, r) := by
  unfold In64 at h
  by_cases hn : v < 0
  · have hi : itoa v = 45 :: decDigits v.natAbs := if_pos hn
    have hl := dec_len20 (u := v.natAbs) (by omega)
    have e1 : isNeg (itoa v ++ r) = true := by rw [hi]; rfl
    have e2 : digsR (itoa v ++ r) = decDigits v.natAbs := by
      unfold digsR
      rw [e1, if_pos rfl, hi]
      show ((decDigits v.natAbs ++ r).takeWhile isDig).take 24 = _
      rw [takeW_dec _ hr, List.take_of_length_le (by omega)]
    have e3 : textR (itoa v ++ r) = itoa v := by unfold textR; rw [e1, if_pos rfl, e2, hi]
    have e4 : valR (itoa v ++ r) = v := by
      unfold valR
      rw [e1, if_pos rfl, e2, numW_dec _ (by omega)]
      unfold sgn64
      split <;> omega
    unfold readR
    rw [e4, e3, if_pos rfl, List.drop_left]
  · have hi : itoa v = decDigits v.toNat := if_neg hn
    have hl := dec_len20 (u := v.toNat) (by omega)
    have e1 : isNeg (itoa v ++ r) = false := by rw [hi]; exact neg_dec _ _
    have e2 : digsR (itoa v ++ r) = decDigits v.toNat := by
      unfold digsR
      rw [e1, if_neg (by decide), hi, takeW_dec _ hr, List.take_of_length_le (by omega)]
    have e3 : textR (itoa v ++ r) = itoa v := by unfold textR; rw [e1, e2, hi]; rfl
    have e4 : valR (itoa v ++ r) = v := by
      unfold valR
      rw [e1, e2, numW_dec _ (by omega)]
      simp only [Bool.false_eq_true, if_false]
      unfold sgn64
      split <;> omega
    unfold readR
    rw [e4, e3, if_pos rfl, List.drop_left]

/-! ### The document's reading of a line -/
def not58 (c : UInt8) : Bool := c != 58
def parW : Nat → List UInt8 → List (List UInt8) × List UInt8
  | 0, l => ([], l)
  | n + 1, l => match l.drop (l.takeWhile not58).length with
    | _ :: c :: r => if c = 32 ∧ wordF (l.takeWhile not58) = l.takeWhile not58 then ((l.takeWhile not58) :: (parW n r).1, (parW n r).2) else ([], l)
    | _ => ([], l)
def parT (l : List UInt8) : Option (Int × Int) :=
  if l.take 5 = kindS then (readR (l.drop 5)).bind fun p => if p.1 = 0 then none else if p.2.take 4 = atS then (readR (p.2.drop 4)).bind fun q => if q.2 = [] then some (p.1, q.1) else none else none
  else none
def parF (s : List UInt8) : Option (List (List UInt8) × Int × Int) :=
  if 400 < s.length ∨ 8 < (parW s.length s).1.length then none else (parT (parW s.length s).2).map fun q => ((parW s.length s).1, q.1, q.2)

theorem takeW_eq (l : List UInt8) : l = l.takeWhile not58 ++ l.drop (l.takeWhile not58).length := by
  have h : l = l.takeWhile not58 ++ l.dropWhile not58 := (List.takeWhile_append_dropWhile).symm
  have h2 : l.drop (l.takeWhile not58).length = l.dropWhile not58 := by
    conv => lhs; arg 2; rw [h]
    rw [List.drop_left]
  rw [h2]; exact h
theorem dropW_head {l r : List UInt8} {c : UInt8} (h : l.drop (l.takeWhile not58).length = c :: r) : c = 58 := by
  have h1 : l = l.takeWhile not58 ++ l.dropWhile not58 := (List.takeWhile_append_dropWhile).symm
  have h2 : l.drop (l.takeWhile not58).length = l.dropWhile not58 := by
    conv => lhs; arg 2; rw [h1]
    rw [List.drop_left]
  rw [h2] at h
  have := List.head?_dropWhile_not not58 l
  rw [h] at this
  simpa [not58] using this
theorem parW_ok : ∀ (n : Nat) (l : List UInt8), l = ((parW n l).1.flatMap fun w => w ++ [58, 32]) ++ (parW n l).2 ∧ ∀ w ∈ (parW n l).1, wordF w = w
  | 0, l => ⟨rfl, fun _ h => by cases h⟩
  | n + 1, l => by
    unfold parW
    split
    · rename_i d c r hd
      split
      · rename_i hc
        obtain ⟨rfl, hw⟩ := hc
        obtain ⟨h1, h2⟩ := parW_ok n r
        have h3 := dropW_head hd
        subst h3
        refine ⟨?_, fun w hm => ?_⟩
        · conv => lhs; rw [takeW_eq l, hd, h1]
          simp
        · rcases List.mem_cons.1 hm with rfl | hm
          · exact hw
          · exact h2 w hm
      · exact ⟨rfl, fun _ h => by cases h⟩
    · exact ⟨rfl, fun _ h => by cases h⟩
theorem parT_some {l : List UInt8} {k o : Int} (h : parT l = some (k, o)) : l = faultS k o ∧ k ≠ 0 ∧ In64 k ∧ In64 o := by
  unfold parT at h
  split at h
  · rename_i h5
    cases h1 : readR (l.drop 5) with
    | none => rw [h1] at h; cases h
    | some p =>
      rw [h1, Option.bind_some] at h
      obtain ⟨e1, i1⟩ := readR_some (v := p.1) (r := p.2) h1
      split at h
      · cases h
      · rename_i hk
        split at h
        · rename_i h4
          cases h2 : readR (p.2.drop 4) with
          | none => rw [h2] at h; cases h
          | some q =>
            rw [h2, Option.bind_some] at h
            obtain ⟨e2, i2⟩ := readR_some (v := q.1) (r := q.2) h2
            split at h
            · rename_i hq
              cases h
              refine ⟨?_, hk, i1, i2⟩
              rw [hq, List.append_nil] at e2
              unfold faultS
              rw [← e2, ← h4, List.take_append_drop, ← e1, ← h5, List.take_append_drop]
            · cases h
        · cases h
  · cases h
theorem parF_some {s : List UInt8} {ws : List (List UInt8)} {k o : Int} (h : parF s = some (ws, k, o)) : s = lineF ws k o ∧ GoodF ws k o ∧ s.length ≤ 400 := by
  unfold parF at h
  split at h
  · cases h
  · rename_i hc
    cases h1 : parT (parW s.length s).2 with
    | none => rw [h1] at h; cases h
    | some q =>
      rw [h1] at h
      cases h
      obtain ⟨e1, e2, e3, e4⟩ := parT_some (k := q.1) (o := q.2) h1
      obtain ⟨p1, p2⟩ := parW_ok s.length s
      refine ⟨?_, ⟨by omega, p2, e2, e3, e4⟩, by omega⟩
      unfold lineF
      rw [← e1]; exact p1
theorem itoa_no58 (v : Int) : ∀ c ∈ itoa v, not58 c = true := by
  intro c hc
  have hd : ∀ u, ∀ c ∈ decDigits u, not58 c = true := fun u c h => by
    have := decDigits_dig u c h
    unfold not58
    rw [bne_iff_ne]
    rintro rfl
    revert this; decide
  unfold itoa at hc
  split at hc
  · rcases List.mem_cons.1 hc with rfl | h
    · rfl
    · exact hd _ _ h
  · exact hd _ _ hc
theorem fault_no58 (k o : Int) : ∀ c ∈ faultS k o, not58 c = true := by
  intro c hc
  unfold faultS at hc
  rcases List.mem_append.1 hc with h | h
  · exact (by decide : ∀ c ∈ kindS, not58 c = true) c h
  · rcases List.mem_append.1 h with h | h
    · exact itoa_no58 _ _ h
    · rcases List.mem_append.1 h with h | h
      · exact (by decide : ∀ c ∈ atS, not58 c = true) c h
      · exact itoa_no58 _ _ h
theorem takeW_all : ∀ {l : List UInt8}, (∀ c ∈ l, not58 c = true) → l.takeWhile not58 = l
  | [], _ => rfl
  | c :: l, h => by rw [List.takeWhile_cons_of_pos (h c List.mem_cons_self), takeW_all fun d hd => h d (List.mem_cons_of_mem _ hd)]
theorem parW_tail {t : List UInt8} (ht : ∀ c ∈ t, not58 c = true) : ∀ n, parW n t = ([], t)
  | 0 => rfl
  | n + 1 => by
    unfold parW
    rw [takeW_all ht, List.drop_length]
theorem parW_line {t : List UInt8} (ht : ∀ c ∈ t, not58 c = true) : ∀ (ws : List (List UInt8)) (n : Nat), (∀ w ∈ ws, wordF w = w) → ws.length ≤ n → parW n ((ws.flatMap fun w => w ++ [58, 32]) ++ t) = (ws, t)
  | [], n, _, _ => parW_tail ht n
  | w :: ws, 0, _, h => by simp at h
  | w :: ws, n + 1, hw, hn => by
    have ih := parW_line ht ws n (fun v hv => hw v (List.mem_cons_of_mem _ hv)) (by simpa using hn)
    have h0 := word_no58 (hw w List.mem_cons_self)
    obtain ⟨r, hr⟩ : ∃ r, (ws.flatMap fun w => w ++ [58, 32]) ++ t = r := ⟨_, rfl⟩
    have e : ((w :: ws).flatMap fun w => w ++ [58, 32]) ++ t = w ++ 58 :: 32 :: r := by rw [← hr]; simp
    rw [hr] at ih
    have e1 : (w ++ 58 :: 32 :: r).takeWhile not58 = w := by
      rw [List.takeWhile_append_of_pos (fun c hc => by unfold not58; rw [bne_iff_ne]; exact h0 c hc), List.takeWhile_cons_of_neg (by decide), List.append_nil]
    rw [e]
    unfold parW
    rw [e1, List.drop_left]
    simp only [hw w List.mem_cons_self, and_self, if_true, ih]
theorem parT_fault {k o : Int} (hk : k ≠ 0) (ik : In64 k) (io : In64 o) : parT (faultS k o) = some (k, o) := by
  unfold parT faultS
  have e1 : (kindS ++ (itoa k ++ (atS ++ itoa o))).take 5 = kindS := List.take_left' rfl
  have e2 : (kindS ++ (itoa k ++ (atS ++ itoa o))).drop 5 = itoa k ++ (atS ++ itoa o) := List.drop_left' rfl
  have e3 : (atS ++ itoa o).take 4 = atS := List.take_left' rfl
  have e4 : (atS ++ itoa o).drop 4 = itoa o := List.drop_left' rfl
  have e5 : readR (itoa k ++ (atS ++ itoa o)) = some (k, atS ++ itoa o) := readR_itoa ik (fun c h => by cases h; rfl)
  have e6 : readR (itoa o) = some (o, []) := by have := readR_itoa io (r := []) (fun c h => by cases h); rwa [List.append_nil] at this
  rw [e1, if_pos rfl, e2, e5, Option.bind_some, if_neg hk, e3, if_pos rfl, e4, e6, Option.bind_some, if_pos rfl]
theorem flat_len (ws : List (List UInt8)) : ws.length ≤ (ws.flatMap fun w => w ++ [58, 32]).length := by
  induction ws with
  | nil => exact Nat.le_refl _
  | cons w ws ih => simp only [List.flatMap_cons, List.length_append, List.length_cons, List.length_nil]; omega
theorem parF_line {ws : List (List UInt8)} {k o : Int} (h : GoodF ws k o) (hl : (lineF ws k o).length ≤ 400) : parF (lineF ws k o) = some (ws, k, o) := by
  have h1 : parW (lineF ws k o).length (lineF ws k o) = (ws, faultS k o) := by
    unfold lineF
    exact parW_line (fault_no58 k o) ws _ h.words (by have := flat_len ws; rw [List.length_append]; omega)
  unfold parF
  rw [h1, if_neg (by have := h.few; simp only; omega), parT_fault h.kind h.ink h.ino]; rfl

/-! ### What is cut at a colon and a blank -/
def sepS : List UInt8 := [58, 32]
theorem index_word {w r : List UInt8} (hw : ∀ c ∈ w, c ≠ 58) : index (w ++ 58 :: 32 :: r) sepS = w.length := by
  refine index_first (by simp) ?_ fun j hj => ?_
  · unfold occAt
    rw [List.drop_left]
    simp [sepS, List.isPrefixOf]
  · unfold occAt
    have h1 : (w ++ 58 :: 32 :: r).drop j = w[j] :: (w ++ 58 :: 32 :: r).drop (j + 1) := by
      rw [List.drop_eq_getElem_cons (by rw [List.length_append]; omega), List.getElem_append_left hj]
    rw [h1]
    have : (58 == w[j]) = false := by rw [beq_eq_false_iff_ne]; exact fun e => hw _ (List.getElem_mem hj) e.symm
    simp [sepS, List.isPrefixOf, this]
theorem index_noword {t : List UInt8} (ht : ∀ c ∈ t, c ≠ 58) : index t sepS = -1 := by
  refine index_none fun j hj => ?_
  unfold occAt
  cases h : t.drop j with
  | nil => rfl
  | cons c r =>
    have hc : c ∈ t := List.mem_of_mem_drop (i := j) (by rw [h]; exact List.mem_cons_self)
    have : (58 == c) = false := by rw [beq_eq_false_iff_ne]; exact fun e => ht _ hc e.symm
    simp [sepS, List.isPrefixOf, this]
theorem split_line {t : List UInt8} (ht : ∀ c ∈ t, c ≠ 58) : ∀ (ws : List (List UInt8)), (∀ w ∈ ws, wordF w = w) → split ((ws.flatMap fun w => w ++ [58, 32]) ++ t) sepS = ws ++ [t]
  | [], _ => by
    show splitK _ _ _ t = [t]
    have h := index_noword ht
    show splitK sepS 0 (count t sepS) t = [t]
    rw [count_miss h]; rfl
  | w :: ws, hw => by
    have ih := split_line ht ws fun v hv => hw v (List.mem_cons_of_mem _ hv)
    obtain ⟨r, hr⟩ : ∃ r, (ws.flatMap fun w => w ++ [58, 32]) ++ t = r := ⟨_, rfl⟩
    have e : ((w :: ws).flatMap fun w => w ++ [58, 32]) ++ t = w ++ 58 :: 32 :: r := by rw [← hr]; simp
    have hi := index_word (r := r) (word_no58 (hw w List.mem_cons_self))
    rw [hr] at ih
    rw [e]
    unfold split at *
    have hd : (w ++ 58 :: 32 :: r).drop (w.length + sepS.length) = r := by
      rw [← List.drop_drop, List.drop_left]; rfl
    rw [count_hit (by decide) hi, hd, Nat.add_comm, splitK, if_neg (by rw [hi]; simp), hi]
    show (w ++ 58 :: 32 :: r).take w.length :: splitK sepS 0 _ ((w ++ 58 :: 32 :: r).drop (w.length + sepS.length)) = _
    rw [hd, ih, List.take_left]; rfl

/-! ### What may be a word -/
def letterL : List UInt8 := [97, 98, 99, 100, 101, 102, 103, 104, 105, 106, 107, 108, 109, 110, 111, 112, 113, 114, 115, 116, 117, 118, 119, 120, 121, 122, 48, 49, 50, 51, 52, 53, 54, 55, 56, 57, 45]
theorem letters_fin : ∀ n : Fin 256, letterL.contains (UInt8.ofNat n.val) = okc (UInt8.ofNat n.val) := by decide +kernel
theorem letters_ok (c : UInt8) : letterL.contains c = okc c := by
  have h := letters_fin ⟨c.toNat, c.toNat_lt⟩
  have e : UInt8.ofNat c.toNat = c := by simp
  rw [← e]; exact h
theorem dropW_nil {p : UInt8 → Bool} : ∀ {l : List UInt8}, l.dropWhile p = [] ↔ l.all p = true
  | [] => by simp
  | c :: l => by
    cases hp : p c with
    | true => rw [List.dropWhile_cons_of_pos hp, dropW_nil, List.all_cons, hp, Bool.true_and]
    | false => rw [List.dropWhile_cons_of_neg (by rw [hp]; simp), List.all_cons, hp]; simp
theorem trim_nil (l : List UInt8) : trimS l letterL = [] ↔ l.all okc = true := by
  have e : (fun c => letterL.contains c) = okc := funext letters_ok
  unfold trimS trimLeftS trimRightS
  rw [e, dropW_nil]
  constructor
  · intro h
    have h2 : (l.reverse.dropWhile okc).all okc = true := by rw [List.all_reverse] at h; exact h
    cases hd : l.reverse.dropWhile okc with
    | nil => rw [← List.all_reverse]; exact dropW_nil.1 hd
    | cons c r =>
      have := List.head?_dropWhile_not okc l.reverse
      rw [hd] at this h2
      simp only [List.all_cons, Bool.and_eq_true] at h2
      simp [h2.1] at this
  · intro h
    rw [List.all_reverse]
    have : l.reverse.dropWhile okc = [] := dropW_nil.2 (by rw [List.all_reverse]; exact h)
    rw [this]; rfl
end Go.Proofs.YtidkpdabidlnnaaGreatDoor


/-
  Errors as they lie in memory; what each make of them has: assertions, methods.
-/





namespace Go.Proofs.YtidkpdabidlnnaaGreatDoor

open Go.RowKit Go.Extern.Stop Go.Stop Go.Extern

set_option maxRecDepth 100000

theorem asIs_S (v : Value) (xT : TypeId) (w : World) : (Instr.typeAssert (.iface 41 v) xT 115 true).run Tryz.prog w = .ok (.tuple #[.nilIface, .bool false]) w := run_typeAssert_lacksB Tryz.underlying115 (by kernel_rfl) (by kernel_rfl) v xT w
theorem asAs_S (v : Value) (xT : TypeId) (w : World) : (Instr.typeAssert (.iface 41 v) xT 119 true).run Tryz.prog w = .ok (.tuple #[.nilIface, .bool false]) w := run_typeAssert_lacksB Tryz.underlying119 (by kernel_rfl) (by kernel_rfl) v xT w
theorem asUn_S (v : Value) (xT : TypeId) (w : World) : (Instr.typeAssert (.iface 41 v) xT 87 true).run Tryz.prog w = .ok (.tuple #[.nilIface, .bool false]) w := run_typeAssert_lacksB Tryz.underlying87 (by kernel_rfl) (by kernel_rfl) v xT w
theorem asUs_S (v : Value) (xT : TypeId) (w : World) : (Instr.typeAssert (.iface 41 v) xT 104 true).run Tryz.prog w = .ok (.tuple #[.nilIface, .bool false]) w := run_typeAssert_lacksB Tryz.underlying104 (by kernel_rfl) (by kernel_rfl) v xT w
theorem asIs_F (v : Value) (xT : TypeId) (w : World) : (Instr.typeAssert (.iface 65 v) xT 115 true).run Tryz.prog w = .ok (.tuple #[.nilIface, .bool false]) w := run_typeAssert_lacksB Tryz.underlying115 (by kernel_rfl) (by kernel_rfl) v xT w
theorem asAs_F (v : Value) (xT : TypeId) (w : World) : (Instr.typeAssert (.iface 65 v) xT 119 true).run Tryz.prog w = .ok (.tuple #[.nilIface, .bool false]) w := run_typeAssert_lacksB Tryz.underlying119 (by kernel_rfl) (by kernel_rfl) v xT w
theorem asUn_F (v : Value) (xT : TypeId) (w : World) : (Instr.typeAssert (.iface 65 v) xT 87 true).run Tryz.prog w = .ok (.tuple #[.iface 65 v, .bool true]) w := run_typeAssert_hasB Tryz.underlying87 (by kernel_rfl) v xT w
theorem asUs_F (v : Value) (xT : TypeId) (w : World) : (Instr.typeAssert (.iface 65 v) xT 104 true).run Tryz.prog w = .ok (.tuple #[.nilIface, .bool false]) w := run_typeAssert_lacksB Tryz.underlying104 (by kernel_rfl) (by kernel_rfl) v xT w
theorem asIs_E (v : Value) (xT : TypeId) (w : World) : (Instr.typeAssert (.iface 75 v) xT 115 true).run Tryz.prog w = .ok (.tuple #[.nilIface, .bool false]) w := run_typeAssert_lacksB Tryz.underlying115 (by kernel_rfl) (by kernel_rfl) v xT w
theorem asAs_E (v : Value) (xT : TypeId) (w : World) : (Instr.typeAssert (.iface 75 v) xT 119 true).run Tryz.prog w = .ok (.tuple #[.nilIface, .bool false]) w := run_typeAssert_lacksB Tryz.underlying119 (by kernel_rfl) (by kernel_rfl) v xT w
theorem asUn_E (v : Value) (xT : TypeId) (w : World) : (Instr.typeAssert (.iface 75 v) xT 87 true).run Tryz.prog w = .ok (.tuple #[.nilIface, .bool false]) w := run_typeAssert_lacksB Tryz.underlying87 (by kernel_rfl) (by kernel_rfl) v xT w
theorem asUs_E (v : Value) (xT : TypeId) (w : World) : (Instr.typeAssert (.iface 75 v) xT 104 true).run Tryz.prog w = .ok (.tuple #[.nilIface, .bool false]) w := run_typeAssert_lacksB Tryz.underlying104 (by kernel_rfl) (by kernel_rfl) v xT w
theorem asIs_N (v : Value) (xT : TypeId) (w : World) : (Instr.typeAssert (.iface 80 v) xT 115 true).run Tryz.prog w = .ok (.tuple #[.nilIface, .bool false]) w := run_typeAssert_lacksB Tryz.underlying115 (by kernel_rfl) (by kernel_rfl) v xT w
theorem asAs_N (v : Value) (xT : TypeId) (w : World) : (Instr.typeAssert (.iface 80 v) xT 119 true).run Tryz.prog w = .ok (.tuple #[.nilIface, .bool false]) w := run_typeAssert_lacksB Tryz.underlying119 (by kernel_rfl) (by kernel_rfl) v xT w
theorem asUn_N (v : Value) (xT : TypeId) (w : World) : (Instr.typeAssert (.iface 80 v) xT 87 true).run Tryz.prog w = .ok (.tuple #[.iface 80 v, .bool true]) w := run_typeAssert_hasB Tryz.underlying87 (by kernel_rfl) v xT w
theorem asUs_N (v : Value) (xT : TypeId) (w : World) : (Instr.typeAssert (.iface 80 v) xT 104 true).run Tryz.prog w = .ok (.tuple #[.nilIface, .bool false]) w := run_typeAssert_lacksB Tryz.underlying104 (by kernel_rfl) (by kernel_rfl) v xT w
theorem asIs_A (v : Value) (xT : TypeId) (w : World) : (Instr.typeAssert (.iface 57 v) xT 115 true).run Tryz.prog w = .ok (.tuple #[.nilIface, .bool false]) w := run_typeAssert_lacksB Tryz.underlying115 (by kernel_rfl) (by kernel_rfl) v xT w
theorem asAs_A (v : Value) (xT : TypeId) (w : World) : (Instr.typeAssert (.iface 57 v) xT 119 true).run Tryz.prog w = .ok (.tuple #[.nilIface, .bool false]) w := run_typeAssert_lacksB Tryz.underlying119 (by kernel_rfl) (by kernel_rfl) v xT w
theorem asUn_A (v : Value) (xT : TypeId) (w : World) : (Instr.typeAssert (.iface 57 v) xT 87 true).run Tryz.prog w = .ok (.tuple #[.iface 57 v, .bool true]) w := run_typeAssert_hasB Tryz.underlying87 (by kernel_rfl) v xT w
theorem asUs_A (v : Value) (xT : TypeId) (w : World) : (Instr.typeAssert (.iface 57 v) xT 104 true).run Tryz.prog w = .ok (.tuple #[.nilIface, .bool false]) w := run_typeAssert_lacksB Tryz.underlying104 (by kernel_rfl) (by kernel_rfl) v xT w
theorem asIs_J (v : Value) (xT : TypeId) (w : World) : (Instr.typeAssert (.iface 91 v) xT 115 true).run Tryz.prog w = .ok (.tuple #[.nilIface, .bool false]) w := run_typeAssert_lacksB Tryz.underlying115 (by kernel_rfl) (by kernel_rfl) v xT w
theorem asAs_J (v : Value) (xT : TypeId) (w : World) : (Instr.typeAssert (.iface 91 v) xT 119 true).run Tryz.prog w = .ok (.tuple #[.nilIface, .bool false]) w := run_typeAssert_lacksB Tryz.underlying119 (by kernel_rfl) (by kernel_rfl) v xT w
theorem asUn_J (v : Value) (xT : TypeId) (w : World) : (Instr.typeAssert (.iface 91 v) xT 87 true).run Tryz.prog w = .ok (.tuple #[.nilIface, .bool false]) w := run_typeAssert_lacksB Tryz.underlying87 (by kernel_rfl) (by kernel_rfl) v xT w
theorem asUs_J (v : Value) (xT : TypeId) (w : World) : (Instr.typeAssert (.iface 91 v) xT 104 true).run Tryz.prog w = .ok (.tuple #[.iface 91 v, .bool true]) w := run_typeAssert_hasB Tryz.underlying104 (by kernel_rfl) v xT w
theorem asN_S (v : Value) (xT : TypeId) (w : World) : (Instr.typeAssert (.iface 41 v) xT 80 true).run Tryz.prog w = .ok (.tuple #[.pointer none, .bool false]) w := by kernel_rfl
theorem asF_S (v : Value) (xT : TypeId) (w : World) : (Instr.typeAssert (.iface 41 v) xT 65 true).run Tryz.prog w = .ok (.tuple #[.agg #[.int .i64 0, .int .i64 0], .bool false]) w := by kernel_rfl
theorem asN_F (v : Value) (xT : TypeId) (w : World) : (Instr.typeAssert (.iface 65 v) xT 80 true).run Tryz.prog w = .ok (.tuple #[.pointer none, .bool false]) w := by kernel_rfl
theorem asF_F (v : Value) (xT : TypeId) (w : World) : (Instr.typeAssert (.iface 65 v) xT 65 true).run Tryz.prog w = .ok (.tuple #[v, .bool true]) w := by kernel_rfl
theorem asN_E (v : Value) (xT : TypeId) (w : World) : (Instr.typeAssert (.iface 75 v) xT 80 true).run Tryz.prog w = .ok (.tuple #[.pointer none, .bool false]) w := by kernel_rfl
theorem asF_E (v : Value) (xT : TypeId) (w : World) : (Instr.typeAssert (.iface 75 v) xT 65 true).run Tryz.prog w = .ok (.tuple #[.agg #[.int .i64 0, .int .i64 0], .bool false]) w := by kernel_rfl
theorem asN_N (v : Value) (xT : TypeId) (w : World) : (Instr.typeAssert (.iface 80 v) xT 80 true).run Tryz.prog w = .ok (.tuple #[v, .bool true]) w := by kernel_rfl
theorem asF_N (v : Value) (xT : TypeId) (w : World) : (Instr.typeAssert (.iface 80 v) xT 65 true).run Tryz.prog w = .ok (.tuple #[.agg #[.int .i64 0, .int .i64 0], .bool false]) w := by kernel_rfl
theorem asN_A (v : Value) (xT : TypeId) (w : World) : (Instr.typeAssert (.iface 57 v) xT 80 true).run Tryz.prog w = .ok (.tuple #[.pointer none, .bool false]) w := by kernel_rfl
theorem asF_A (v : Value) (xT : TypeId) (w : World) : (Instr.typeAssert (.iface 57 v) xT 65 true).run Tryz.prog w = .ok (.tuple #[.agg #[.int .i64 0, .int .i64 0], .bool false]) w := by kernel_rfl
theorem asN_J (v : Value) (xT : TypeId) (w : World) : (Instr.typeAssert (.iface 91 v) xT 80 true).run Tryz.prog w = .ok (.tuple #[.pointer none, .bool false]) w := by kernel_rfl
theorem asF_J (v : Value) (xT : TypeId) (w : World) : (Instr.typeAssert (.iface 91 v) xT 65 true).run Tryz.prog w = .ok (.tuple #[.agg #[.int .i64 0, .int .i64 0], .bool false]) w := by kernel_rfl
theorem mUn_F (v : Value) (w : World) : (Go.method 326 65 v "Unwrap").run Tryz.prog w = .ok (149, v) w := by kernel_rfl
theorem mUn_N (v : Value) (w : World) : (Go.method 326 80 v "Unwrap").run Tryz.prog w = .ok (152, v) w := by kernel_rfl
theorem mUn_A (v : Value) (w : World) : (Go.method 326 57 v "Unwrap").run Tryz.prog w = .ok (147, v) w := by kernel_rfl
theorem mUn_J (v : Value) (w : World) : (Go.method 326 91 v "Unwrap").run Tryz.prog w = .ok (154, v) w := by kernel_rfl
theorem mEr_F (v : Value) (w : World) : (Go.method 326 65 v "Error").run Tryz.prog w = .ok (148, v) w := by kernel_rfl
theorem mEr_N (v : Value) (w : World) : (Go.method 326 80 v "Error").run Tryz.prog w = .ok (151, v) w := by kernel_rfl
end Go.Proofs.YtidkpdabidlnnaaGreatDoor


/-
  Small lemmas of my own on blocks of memory: what a block of cells holds, and that calls which only make memory leave it.
-/
namespace Go.Proofs.YtidkpdabidlnnaaGreatDoor
open Go.RowKit

/-- Block b of w is the cells cs, of type T, none of them frozen. -/
def Blk (w : World) (b : Nat) (cs : Array Value) (T : TypeId) : Prop := w.heap[b]? = some (.cells cs T (0, 0))
theorem Blk.cell {w : World} {b : Nat} {cs : Array Value} {T : TypeId} (h : Blk w b cs T) (i : Nat) : w.cell? ⟨b, i, none⟩ = cs[i]? := by
  unfold Blk at h; simp [World.cell?, h]
theorem Blk.free {w : World} {b : Nat} {cs : Array Value} {T : TypeId} (h : Blk w b cs T) (i : Nat) : w.frozen? ⟨b, i, none⟩ = false := by
  unfold Blk at h; simp [World.frozen?, h]
theorem Blk.lt {w : World} {b : Nat} {cs : Array Value} {T : TypeId} (h : Blk w b cs T) : b < w.heap.size := lt_of_block h
theorem Blk.one {w : World} {b : Nat} {x : Value} {T : TypeId} (h : Blk w b #[x] T) : w.cell? ⟨b, 0, none⟩ = some x := h.cell 0
theorem Blk.two {w : World} {b : Nat} {x y : Value} {T : TypeId} (h : Blk w b #[x, y] T) : w.cell? ⟨b, 0, none⟩ = some x ∧ w.cell? ⟨b, 1, none⟩ = some y := ⟨h.cell 0, h.cell 1⟩
theorem Blk.free0 {w : World} {b : Nat} {cs : Array Value} {T : TypeId} (h : Blk w b cs T) : w.frozen? ⟨b, 0, none⟩ = false ∧ w.frozen? ⟨b, 1, none⟩ = false := ⟨h.free 0, h.free 1⟩
theorem Blk.drew {w : World} {b : Nat} {cs : Array Value} {T : TypeId} (h : Blk w b cs T) : Blk w.drew b cs T := h
theorem Blk.new {w : World} {b : Nat} {cs : Array Value} {T : TypeId} (hb : b = w.heap.size) : Blk (w.alloc (.cells cs T)) b cs T := by
  subst hb; show (w.heap.push _)[w.heap.size]? = _; simp
theorem Blk.old {w : World} {b : Nat} {cs : Array Value} {T : TypeId} (h : Blk w b cs T) (o : Obj) : Blk (w.alloc o) b cs T := by
  have := h.lt; unfold Blk at *; rw [Below.heap_alloc _ _ _ this]; exact h
theorem Blk.keep {w w' : World} {b : Nat} {cs : Array Value} {T : TypeId} (hb : Below w.heap.size w w') (h : Blk w b cs T) : Blk w' b cs T := by
  have := h.lt; unfold Blk at *; rw [hb.block _ this]; exact h
theorem Blk.put {w : World} {b i : Nat} {cs : Array Value} {T : TypeId} (h : Blk w b cs T) (v : Value) : Blk (w.setCell ⟨b, i, none⟩ v) b (cs.setIfInBounds i v) T := by
  have hlt := h.lt
  unfold Blk at *
  have h' : w.heap[b] = .cells cs T (0, 0) := by simpa [Array.getElem?_eq_getElem hlt] using h
  show (w.heap.modify b _)[b]? = _
  rw [Array.getElem?_eq_getElem (by simpa using hlt), Array.getElem_modify_self, h']
  rfl
theorem Blk.else {w : World} {b : Nat} {a : Addr} {cs : Array Value} {T : TypeId} (h : Blk w b cs T) (v : Value) (hb : b ≠ a.block) : Blk (w.setCell a v) b cs T := by
  unfold Blk at *; rw [Below.heap_setCell _ _ _ _ hb]; exact h
theorem Blk.else2 {w : World} {b b' : Nat} {cs : Array Value} {x y : Value} {T : TypeId} (n : Blk w b' cs T) (hne : b' ≠ b) : Blk ((w.setCell ⟨b, 0, none⟩ x).setCell ⟨b, 1, none⟩ y) b' cs T := (n.else (a := ⟨b, 0, none⟩) x hne).else (a := ⟨b, 1, none⟩) y hne
theorem Below.put2 {w0 w : World} {b B : Nat} {x y : Value} (h : Below B w0 w) (hb : B ≤ b) : Below B w0 ((w.setCell ⟨b, 0, none⟩ x).setCell ⟨b, 1, none⟩ y) := (h.setCell (p := ⟨b, 0, none⟩) hb x).setCell (p := ⟨b, 1, none⟩) hb y
/-- Below the size that it had a world is as it was, over one more call. -/
theorem keepW {W w w' : World} (h : Below W.heap.size W w) (hb : Below w.heap.size w w') : Below W.heap.size W w' := h.trans (hb.mono h.size)

section
variable {P : Program} {l : List Oper} {Q : Exit → Act → World → Prop} {md : Region.Mode} {S : World → Prop}
/-- An operation that is wanted, and yields its value in every world that meets S, is taken first. -/
theorem H.take (i : Nat) {o : Oper} {v : Value} {fuel : Nat} {listed : Array Bool} {a : Act} {w : World} (ho : l[i]? = some o)
    (hc : (Region.noSelect l.toArray && Region.free md l.toArray listed i && (Region.ready md l.toArray listed).contains i) = true)
    (hQ : ∀ c a w, Q (.panic c) (a.put o.dst v) w → Q (.panic c) a w)
    (hw : Region.wanted o (yielded l.toArray a.tmps) = true) (hv : ∀ w, S w → (execOp a.eval o).run P w = .ok (.value v) w) (hS : S w)
    (h : wpAnyH P md l.toArray Q S fuel (listed.setIfInBounds i true) (a.put o.dst v) w) : wpAnyH P md l.toArray Q S (fuel + 1) listed a w := by
  simp only [Bool.and_eq_true] at hc
  exact wpAnyH_take (by simpa using ho) hc.1.1 hc.1.2 hc.2 hQ (Or.inl ⟨hw, hv⟩) hS h
/-- An operation that is not wanted (its guard said otherwise) is passed by. -/
theorem H.skip (i : Nat) {o : Oper} {fuel : Nat} {listed : Array Bool} {a : Act} {w : World} (ho : l[i]? = some o)
    (hc : (Region.noSelect l.toArray && Region.free md l.toArray listed i && (Region.ready md l.toArray listed).contains i) = true)
    (hQ : ∀ c a w, Q (.panic c) (a.put o.dst undef) w → Q (.panic c) a w)
    (hw : Region.wanted o (yielded l.toArray a.tmps) = false) (hS : S w)
    (h : wpAnyH P md l.toArray Q S fuel (listed.setIfInBounds i true) (a.put o.dst undef) w) : wpAnyH P md l.toArray Q S (fuel + 1) listed a w := by
  simp only [Bool.and_eq_true] at hc
  exact wpAnyH_take (by simpa using ho) hc.1.1 hc.1.2 hc.2 hQ (Or.inr ⟨hw, rfl⟩) hS h
/-- What may come up is known: one goal for each. -/
theorem H.ready (rs : List Nat) {fuel : Nat} {listed : Array Bool} {a : Act} {w : World} (hr : Region.ready md l.toArray listed = rs) (hne : rs ≠ [])
    (h : AllReadyH P md l.toArray Q S fuel listed a w rs) : wpAnyH P md l.toArray Q S (fuel + 1) listed a w := wpAnyH_ready hr hne h
theorem H.one {fuel : Nat} {listed : Array Bool} {a : Act} {w : World} {i : Nat} {o : Oper} {rs : List Nat} (ho : l[i]? = some o)
    (hw : Region.wanted o (yielded l.toArray a.tmps) = true)
    (h : ∀ K' : Act → World → Prop, Shut (∀ a w, S w → (S w → wpAnyH P md l.toArray Q S fuel (listed.setIfInBounds i true) a w) → K' a w) → Oper.wp P o a w K' Q)
    (hs : AllReadyH P md l.toArray Q S fuel listed a w rs) : AllReadyH P md l.toArray Q S fuel listed a w (i :: rs) :=
  AllReadyH.cons (by simpa using ho) (fun K hK => by rw [if_pos hw]; exact h K hK) hs
/-- Behind an alloc: the new block. -/
theorem H.fresh {fuel : Nat} {ops : Array Oper} {listed : Array Bool} {a : Act} {w : World} {cs : Array Value} {T : TypeId}
    (h : Blk (w.alloc (.cells cs T)) w.heap.size cs T → wpAnyH P md ops Q S fuel listed a (w.alloc (.cells cs T))) : wpAnyH P md ops Q S fuel listed a (w.alloc (.cells cs T)) := h (Blk.new rfl)
/-- Behind a store of two cells: the block that was written, and another one. -/
theorem H.stored2 {fuel : Nat} {ops : Array Oper} {listed : Array Bool} {a : Act} {w : World} {b : Nat} {p q x y : Value} {T : TypeId} (n : Blk w b #[p, q] T)
    (h : Blk ((w.setCell ⟨b, 0, none⟩ x).setCell ⟨b, 1, none⟩ y) b #[x, y] T → wpAnyH P md ops Q S fuel listed a ((w.setCell ⟨b, 0, none⟩ x).setCell ⟨b, 1, none⟩ y)) :
    wpAnyH P md ops Q S fuel listed a ((w.setCell ⟨b, 0, none⟩ x).setCell ⟨b, 1, none⟩ y) := h ((n.put (i := 0) x).put (i := 1) y)
theorem H.other2 {fuel : Nat} {ops : Array Oper} {listed : Array Bool} {a : Act} {w : World} {b b' : Nat} {cs : Array Value} {x y : Value} {T : TypeId} (n : Blk w b' cs T) (hne : b' ≠ b)
    (h : Blk ((w.setCell ⟨b, 0, none⟩ x).setCell ⟨b, 1, none⟩ y) b' cs T → wpAnyH P md ops Q S fuel listed a ((w.setCell ⟨b, 0, none⟩ x).setCell ⟨b, 1, none⟩ y)) :
    wpAnyH P md ops Q S fuel listed a ((w.setCell ⟨b, 0, none⟩ x).setCell ⟨b, 1, none⟩ y) := h ((n.else (a := ⟨b, 0, none⟩) x hne).else (a := ⟨b, 1, none⟩) y hne)
theorem H.done {listed : Array Bool} {a : Act} {w : World} (hr : Region.ready md l.toArray listed = []) (h : Q .normal a w) (fuel : Nat) : wpAnyH P md l.toArray Q S fuel listed a w := wpAnyH_done hr h fuel
end
end Go.Proofs.YtidkpdabidlnnaaGreatDoor


/-
  Errors as they lie in memory: sorts, faults, notes, and those of others; what each unwraps to.
-/



namespace Go.Proofs.YtidkpdabidlnnaaGreatDoor

open Go.RowKit

set_option maxRecDepth 100000

/-- An error: a sort; a fault; one of errors.New's make (its block); a note (its block, its word) around one; one of others' around one; one joined behind one of errors.New's make (its block, its row's). -/
inductive Er where
  | sort (k : Int)
  | flt (k o : Int)
  | oth (a : Nat)
  | note (b : Nat) (wd : ByteArray) (e : Er)
  | arnd (e : Er)
  | join (b r a : Nat) (e : Er)
def Er.val : Er → Value
  | .sort k => .iface 41 (.int .i64 k)
  | .flt k o => .iface 65 (.agg #[.int .i64 k, .int .i64 o])
  | .oth a => .iface 75 (.pointer (some ⟨a, 0, none⟩))
  | .note b _ _ => .iface 80 (.pointer (some ⟨b, 0, none⟩))
  | .arnd e => .iface 57 (.agg #[e.val])
  | .join b _ _ _ => .iface 91 (.pointer (some ⟨b, 0, none⟩))
def Er.lies (w : World) : Er → Prop
  | .sort k => In64 k
  | .flt k o => In64 k ∧ In64 o
  | .oth a => ∃ s : ByteArray, Blk w a #[.string s] 77
  | .note b wd e => Blk w b #[.string wd, e.val] 82 ∧ e.lies w
  | .arnd e => e.lies w
  | .join b r a e => Blk w b #[.slice (some ⟨r, 0, none⟩) 2 2] 93 ∧ Blk w r #[(Er.oth a).val, e.val] 27 ∧ (∃ s : ByteArray, Blk w a #[.string s] 77) ∧ e.lies w
theorem Er.lies.keep {w w' : World} (hb : Below w.heap.size w w') : ∀ {e : Er}, e.lies w → e.lies w'
  | .sort _, h => h
  | .flt _ _, h => h
  | .oth _, ⟨s, h⟩ => ⟨s, Blk.keep hb h⟩
  | .note _ _ _, ⟨h, k⟩ => ⟨Blk.keep hb h, Er.lies.keep hb k⟩
  | .arnd e, h => Er.lies.keep (e := e) hb h
  | .join _ _ _ _, ⟨h, g, ⟨s, i⟩, k⟩ => ⟨Blk.keep hb h, Blk.keep hb g, ⟨s, Blk.keep hb i⟩, Er.lies.keep hb k⟩
/-- What an error unwraps to, alone. -/
def Er.un : Er → Option Er
  | .sort _ => none
  | .flt k _ => some (.sort k)
  | .oth _ => none
  | .note _ _ e => some e
  | .arnd e => some e
  | .join _ _ _ _ => none
def oval : Option Er → Value
  | none => .nilIface
  | some e => e.val
def olies (w : World) : Option Er → Prop
  | none => True
  | some e => e.lies w
def Er.size : Er → Nat
  | .sort _ => 1
  | .flt _ _ => 2
  | .oth _ => 1
  | .note _ _ e => e.size + 1
  | .arnd e => e.size + 1
  | .join _ _ _ e => e.size + 2
def Er.isNote : Er → Bool
  | .note _ _ _ => true
  | _ => false
theorem Er.un_lies {w : World} {e : Er} (h : e.lies w) : olies w e.un := by
  cases e with
  | sort k => trivial
  | flt k o => exact h.1
  | oth a => trivial
  | note b wd e => exact h.2
  | arnd e => exact h
  | join b r a e => trivial
theorem Er.un_size {e f : Er} (h : e.un = some f) : f.size < e.size := by
  cases e <;> simp only [Er.un, Option.some.injEq, reduceCtorEq] at h <;> subst h <;> simp only [Er.size] <;> omega

theorem func_unwrapF (k o : Int) (w : World) : Calls Tryz.prog 149 #[.agg #[.int .i64 k, .int .i64 o]] w fun e w' => e = .returned (Er.sort k).val ∧ Below w.heap.size w w' := by
  go_enter Tryz.func149, Tryz.ntmps149
  go_wp2
  go_ret
  exact ⟨rfl, (Below.refl _ w).alloc (Nat.le_refl _) _⟩
theorem func_unwrapN (b : Nat) (wd : ByteArray) (v : Value) (w : World) (h : Blk w b #[.string wd, v] 82) : Calls Tryz.prog 152 #[.pointer (some ⟨b, 0, none⟩)] w fun e w' => e = .returned v ∧ w' = w := by
  have h1 : w.cell? ⟨b, 1, none⟩ = some v := h.cell 1
  clear h
  go_enter Tryz.func152, Tryz.ntmps152
  go_wp2
  go_ret
  exact ⟨rfl, rfl⟩
theorem func_unwrapA (v : Value) (w : World) : Calls Tryz.prog 147 #[.agg #[v]] w fun e w' => e = .returned v ∧ Below w.heap.size w w' := by
  go_enter Tryz.func147, Tryz.ntmps147
  go_wp2
  go_ret
  exact ⟨rfl, (Below.refl _ w).alloc (Nat.le_refl _) _⟩
theorem func_unwrapJ (b : Nat) (v : Value) (w : World) (h : Blk w b #[v] 93) : Calls Tryz.prog 154 #[.pointer (some ⟨b, 0, none⟩)] w fun e w' => e = .returned v ∧ w' = w := by
  have h1 : w.cell? ⟨b, 0, none⟩ = some v := h.cell 0
  clear h
  go_enter Tryz.func154, Tryz.ntmps154
  go_wp2
  go_ret
  exact ⟨rfl, rfl⟩
/-- errors.Unwrap. -/
theorem unwrap_any (e : Er) (w : World) (h : e.lies w) : Calls Tryz.prog 25 #[e.val] w fun ev w' => ev = .returned (oval e.un) ∧ Below w.heap.size w w' := by
  cases e with
  | sort k =>
    have a1 := asUn_S
    show Calls Tryz.prog 25 #[.iface 41 (.int .i64 k)] w fun ev w' => ev = .returned .nilIface ∧ Below w.heap.size w w'
    go_enter Tryz.func25, Tryz.ntmps25
    go_wp2
    go_ret
    exact ⟨rfl, Below.refl _ _⟩
  | flt k o =>
    have a1 := asUn_F
    have m1 := mUn_F
    show Calls Tryz.prog 25 #[.iface 65 (.agg #[.int .i64 k, .int .i64 o])] w fun ev w' => ev = .returned (Er.sort k).val ∧ Below w.heap.size w w'
    go_enter Tryz.func25, Tryz.ntmps25
    go_wp2_with (go_at_call 149; refine (func_unwrapF _ _ _).mono ?_; rintro e w' ⟨rfl, hb⟩; have HB := Lib.hid hb; clear hb)
    go_ret
    exact ⟨rfl, HB.out⟩
  | oth a =>
    have a1 := asUn_E
    show Calls Tryz.prog 25 #[.iface 75 (.pointer (some ⟨a, 0, none⟩))] w fun ev w' => ev = .returned .nilIface ∧ Below w.heap.size w w'
    go_enter Tryz.func25, Tryz.ntmps25
    go_wp2
    go_ret
    exact ⟨rfl, Below.refl _ _⟩
  | note b wd e =>
    have a1 := asUn_N
    have m1 := mUn_N
    have hB := Lib.hid h.1
    clear h
    show Calls Tryz.prog 25 #[.iface 80 (.pointer (some ⟨b, 0, none⟩))] w fun ev w' => ev = .returned e.val ∧ Below w.heap.size w w'
    go_enter Tryz.func25, Tryz.ntmps25
    go_wp2_with (go_at_call 152; refine (func_unwrapN _ _ _ _ hB.out).mono ?_; rintro e w' ⟨rfl, rfl⟩)
    go_ret
    exact ⟨rfl, Below.refl _ _⟩
  | arnd e =>
    have a1 := asUn_A
    have m1 := mUn_A
    show Calls Tryz.prog 25 #[.iface 57 (.agg #[e.val])] w fun ev w' => ev = .returned e.val ∧ Below w.heap.size w w'
    go_enter Tryz.func25, Tryz.ntmps25
    go_wp2_with (go_at_call 147; refine (func_unwrapA _ _).mono ?_; rintro e w' ⟨rfl, hb⟩; have HB := Lib.hid hb; clear hb)
    go_ret
    exact ⟨rfl, HB.out⟩
  | join b r a e =>
    have a1 := asUn_J
    show Calls Tryz.prog 25 #[.iface 91 (.pointer (some ⟨b, 0, none⟩))] w fun ev w' => ev = .returned .nilIface ∧ Below w.heap.size w w'
    go_enter Tryz.func25, Tryz.ntmps25
    go_wp2
    go_ret
    exact ⟨rfl, Below.refl _ _⟩
end Go.Proofs.YtidkpdabidlnnaaGreatDoor


/-
  Errors, whatever their make: one fact for each question that the code asks of them.
-/

namespace Go.Proofs.YtidkpdabidlnnaaGreatDoor

open Go.RowKit

set_option maxRecDepth 100000

def Er.ty : Er → TypeId
  | .sort _ => 41
  | .flt _ _ => 65
  | .oth _ => 75
  | .note _ _ _ => 80
  | .arnd _ => 57
  | .join _ _ _ _ => 91
def Er.cont : Er → Value
  | .sort k => .int .i64 k
  | .flt k o => .agg #[.int .i64 k, .int .i64 o]
  | .oth a => .pointer (some ⟨a, 0, none⟩)
  | .note b _ _ => .pointer (some ⟨b, 0, none⟩)
  | .arnd e => .agg #[e.val]
  | .join b _ _ _ => .pointer (some ⟨b, 0, none⟩)
theorem Er.val_eq (e : Er) : e.val = .iface e.ty e.cont := by cases e <;> rfl
def Er.unf : Er → FuncId
  | .flt _ _ => 149
  | .note _ _ _ => 152
  | .arnd _ => 147
  | _ => 0
def Er.isJoin : Er → Bool
  | .join _ _ _ _ => true
  | _ => false
theorem asIs_any (e : Er) (xT : TypeId) (w : World) : (Instr.typeAssert (.iface e.ty e.cont) xT 115 true).run Tryz.prog w = .ok (.tuple #[.nilIface, .bool false]) w := by
  cases e
  · exact asIs_S _ _ _
  · exact asIs_F _ _ _
  · exact asIs_E _ _ _
  · exact asIs_N _ _ _
  · exact asIs_A _ _ _
  · exact asIs_J _ _ _
theorem asAs_any (e : Er) (xT : TypeId) (w : World) : (Instr.typeAssert (.iface e.ty e.cont) xT 119 true).run Tryz.prog w = .ok (.tuple #[.nilIface, .bool false]) w := by
  cases e
  · exact asAs_S _ _ _
  · exact asAs_F _ _ _
  · exact asAs_E _ _ _
  · exact asAs_N _ _ _
  · exact asAs_A _ _ _
  · exact asAs_J _ _ _
theorem asUn_some {e f : Er} (h : e.un = some f) (xT : TypeId) (w : World) : (Instr.typeAssert (.iface e.ty e.cont) xT 87 true).run Tryz.prog w = .ok (.tuple #[.iface e.ty e.cont, .bool true]) w := by
  cases e
  · cases h
  · exact asUn_F _ _ _
  · cases h
  · exact asUn_N _ _ _
  · exact asUn_A _ _ _
  · cases h
theorem asUn_none {e : Er} (h : e.un = none) (xT : TypeId) (w : World) : (Instr.typeAssert (.iface e.ty e.cont) xT 87 true).run Tryz.prog w = .ok (.tuple #[.nilIface, .bool false]) w := by
  cases e
  · exact asUn_S _ _ _
  · cases h
  · exact asUn_E _ _ _
  · cases h
  · cases h
  · exact asUn_J _ _ _
theorem asUs_any (e : Er) (xT : TypeId) (w : World) : (Instr.typeAssert (.iface e.ty e.cont) xT 104 true).run Tryz.prog w = .ok (.tuple #[if e.isJoin then .iface e.ty e.cont else .nilIface, .bool e.isJoin]) w := by
  cases e
  · exact asUs_S _ _ _
  · exact asUs_F _ _ _
  · exact asUs_E _ _ _
  · exact asUs_N _ _ _
  · exact asUs_A _ _ _
  · exact asUs_J _ _ _
def Er.ptrN : Er → Value
  | .note b _ _ => .pointer (some ⟨b, 0, none⟩)
  | _ => .pointer none
theorem asN_any (e : Er) (xT : TypeId) (w : World) : (Instr.typeAssert (.iface e.ty e.cont) xT 80 true).run Tryz.prog w = .ok (.tuple #[e.ptrN, .bool e.isNote]) w := by
  cases e
  · exact asN_S _ _ _
  · exact asN_F _ _ _
  · exact asN_E _ _ _
  · exact asN_N _ _ _
  · exact asN_A _ _ _
  · exact asN_J _ _ _
theorem mUn_some {e f : Er} (h : e.un = some f) (w : World) : (Go.method 326 e.ty e.cont "Unwrap").run Tryz.prog w = .ok (e.unf, e.cont) w := by
  cases e
  · cases h
  · exact mUn_F _ _
  · cases h
  · exact mUn_N _ _
  · exact mUn_A _ _
  · cases h
theorem unf_calls {e f : Er} (h : e.un = some f) (w : World) (hl : e.lies w) : Calls Tryz.prog e.unf #[e.cont] w fun ev w' => ev = .returned (.iface f.ty f.cont) ∧ Below w.heap.size w w' := by
  rw [← Er.val_eq f]
  cases e with
  | flt k o => cases h; exact func_unwrapF k o w
  | note b wd e => cases h; exact (func_unwrapN b wd _ w hl.1).mono fun e w' ⟨h1, h2⟩ => ⟨h1, h2 ▸ Below.refl _ _⟩
  | arnd e => cases h; exact func_unwrapA _ w
  | sort k => cases h
  | oth a => cases h
  | join b r a e => cases h
theorem mUs_join (b r a : Nat) (e : Er) (w : World) : (Go.method 326 (Er.join b r a e).ty (Er.join b r a e).cont "Unwrap").run Tryz.prog w = .ok (154, (Er.join b r a e).cont) w := mUn_J _ _
theorem unfJ_calls {b r a : Nat} {e : Er} (w : World) (hl : (Er.join b r a e).lies w) : Calls Tryz.prog 154 #[(Er.join b r a e).cont] w fun ev w' => ev = .returned (.slice (some ⟨r, 0, none⟩) 2 2) ∧ w' = w := func_unwrapJ b _ w hl.1
theorem join_cells {b r a : Nat} {e : Er} {w : World} (hl : (Er.join b r a e).lies w) : w.cell? ⟨r, 0, none⟩ = some (.iface (Er.oth a).ty (Er.oth a).cont) ∧ w.cell? ⟨r, 1, none⟩ = some (.iface e.ty e.cont) :=
  ⟨hl.2.1.cell 0, by rw [← Er.val_eq]; exact hl.2.1.cell 1⟩
theorem unf_cases {e f : Er} (h : e.un = some f) : e.unf = 149 ∨ e.unf = 152 ∨ e.unf = 147 := by
  cases e
  · cases h
  · exact .inl rfl
  · cases h
  · exact .inr (.inl rfl)
  · exact .inr (.inr rfl)
  · cases h
theorem eq_nil (e : Er) (w : World) : (binOp .eql 27 (.iface e.ty e.cont) .nilIface).run Tryz.prog w = .ok (.bool false) w := by cases e <;> rfl
theorem ne_nil (e : Er) (w : World) : (binOp .neq 27 (.iface e.ty e.cont) .nilIface).run Tryz.prog w = .ok (.bool true) w := by cases e <;> rfl

theorem Blk.same {w : World} {b : Nat} {x y : Array Value} {S T : TypeId} (h : Blk w b x S) (k : Blk w b y T) : x = y := by
  unfold Blk at h k
  rw [h] at k
  cases k; rfl
/-- Where an error lies it is the only one. -/
theorem Er.lies_inj {w : World} : ∀ {e f : Er}, e.lies w → f.lies w → e.val = f.val → e = f
  | .sort k, f, _, _, h => by cases f <;> first | (cases h; rfl) | cases h
  | .flt k o, f, _, _, h => by cases f <;> first | (cases h; rfl) | cases h
  | .oth a, f, _, _, h => by cases f <;> first | (cases h; rfl) | cases h
  | .note b wd e, f, h1, h2, h => by
    cases f with
    | note b' wd' e' =>
      cases h
      have := Blk.same h1.1 h2.1
      simp only [Array.mk.injEq, List.cons.injEq, Value.string.injEq, and_true] at this
      obtain ⟨rfl, h3⟩ := this
      rw [Er.lies_inj h1.2 h2.2 h3]
    | _ => cases h
  | .arnd e, f, h1, h2, h => by
    cases f with
    | arnd e' =>
      have : e.val = e'.val := by
        have h3 : Value.iface 57 (.agg #[e.val]) = .iface 57 (.agg #[e'.val]) := h
        simpa using h3
      rw [Er.lies_inj (e := e) (f := e') h1 h2 this]
    | _ => cases h
  | .join b r a e, f, h1, h2, h => by
    cases f with
    | join b' r' a' e' =>
      cases h
      have h3 := Blk.same h1.1 h2.1
      simp at h3
      obtain rfl := h3
      have h4 := Blk.same h1.2.1 h2.2.1
      simp [Er.val] at h4
      obtain ⟨rfl, h5⟩ := h4
      rw [Er.lies_inj h1.2.2.2 h2.2.2.2 h5]
    | _ => cases h
open Classical in
noncomputable def szv (w : World) (v : Value) : Nat := if h : ∃ f : Er, f.val = v ∧ f.lies w then h.choose.size else 0
theorem szv_of {w : World} {e : Er} (h : e.lies w) : szv w (.iface e.ty e.cont) = e.size := by
  rw [← Er.val_eq]
  have hx : ∃ f : Er, f.val = e.val ∧ f.lies w := ⟨e, rfl, h⟩
  unfold szv
  rw [dif_pos hx]
  have := hx.choose_spec
  rw [Er.lies_inj this.2 h this.1]
end Go.Proofs.YtidkpdabidlnnaaGreatDoor


/-
  How many notes are in a chain.
-/

namespace Go.Proofs.YtidkpdabidlnnaaGreatDoor

open Go.RowKit

set_option maxRecDepth 100000

noncomputable def natOf (v : Value) : Nat :=
  match v with
  | .int _ n => n.toNat
  | _ => 0
def cntE : Er → Nat
  | .sort _ => 0
  | .flt _ _ => 0
  | .oth _ => 0
  | .note _ _ e => cntE e + 1
  | .arnd e => cntE e
  | .join _ _ _ _ => 0
def cntO : Option Er → Nat
  | none => 0
  | some e => cntE e
def sizeO : Option Er → Nat
  | none => 0
  | some e => e.size
theorem cnt_un (e : Er) : cntE e = (if e.isNote then 1 else 0) + cntO e.un := by
  cases e <;> simp [cntE, Er.isNote, Er.un, cntO] <;> omega
theorem size_un (e : Er) : sizeO e.un + 1 ≤ e.size := by
  cases h : e.un with
  | none => cases e <;> simp [Er.size, sizeO]
  | some f => have := Er.un_size h; simp [sizeO]; omega
theorem size_pos (e : Er) : 0 < e.size := by cases e <;> simp [Er.size]
theorem oval_some (e : Er) : oval (some e) = .iface e.ty e.cont := Er.val_eq e

theorem nil_nil (w : World) : (binOp .neq 27 .nilIface .nilIface).run Tryz.prog w = .ok (.bool false) w := rfl
theorem count_any (e : Er) (w : World) (hl : e.lies w) (hs : e.size ≤ 1000000) :
    Calls Tryz.prog 36 #[.iface e.ty e.cont] w fun ev w' => ev = .returned (.int .i64 (cntE e)) ∧ Below w.heap.size w w' := by
  have HL := Lib.hid hl; have HS := Lib.hid hs
  clear hl hs
  go_enter Tryz.func36, Tryz.ntmps36
  go_wp2
  go_loopw [0, 3, 4] (fun v n i wr => ∃ (o : Option Er) (k j : Nat), v = oval o ∧ n = .int .i64 (k : Int) ∧ i = .int .i64 (j : Int) ∧ olies wr o ∧ j + sizeO o ≤ 1000000 ∧ k ≤ j ∧ k + cntO o = cntE e ∧ Below w.heap.size w wr) (fun _ _ i _ => 1000001 - natOf i)
  case atStart => exact ⟨some e, 0, 0, (oval_some e).symm, rfl, rfl, HL.out, by have := HS.out; simp only [sizeO]; omega, Nat.le_refl _, by simp [cntO], Below.refl _ _⟩
  case round =>
    obtain ⟨o, k, j, rfl, rfl, rfl, ho, hsz, hkj, hc, hb⟩ := hrel
    cases o with
    | none =>
      have HC := Lib.hid hc; have HB := Lib.hid hb
      have hlt : (j : Int) < 1048576 := by omega
      have hn := nil_nil
      have hv : oval none = .nilIface := rfl
      clear hc hb ho hsz hkj
      rw [hv]
      clear hv
      go_wp2
      go_ret
      exact ⟨by have h := HC.out; simp only [cntO, Nat.add_zero] at h; rw [h]; rfl, HB.out⟩
    | some f =>
      have hn := ne_nil f
      have ha := asN_any f
      have hc2 := cnt_un f
      have hs2 := size_un f
      have hs3 := size_pos f
      simp only [sizeO] at hsz
      have hlt : (j : Int) < 1048576 := by omega
      have hlk : (k : Int) < 1048576 := by omega
      have HKJ := Lib.hid hkj; have HU := Lib.hid (unwrap_any f); have HF := Lib.hid (show f.lies wr from ho); have HC := Lib.hid hc; have HC2 := Lib.hid hc2; have HS2 := Lib.hid hs2; have HSZ := Lib.hid hsz; have HB := Lib.hid hb
      have hv : oval (some f) = .iface f.ty f.cont := oval_some f
      cases hq : f.isNote with
      | true =>
        rw [hq] at ha hc2
        clear ho hc hc2 hs2 hs3 hsz hb hkj
        rw [hv]
        clear hv
        go_wp2_with (go_at_call 25; rw [← Er.val_eq]; refine (HU.out _ HF.out).mono ?_; rintro ev w2 ⟨rfl, hb2⟩; have HB2 := Lib.hid hb2; clear hb2)
        go_roundw
        case rel => exact ⟨f.un, k + 1, j + 1, rfl, by go_num, by go_num, (by have h := Er.un_lies HF.out; cases hu : f.un with | none => trivial | some g => rw [hu] at h; exact Er.lies.keep HB2.out h), by have := HS2.out; have := HSZ.out; omega, by have := HKJ.out; omega, (by have h := HC2.out; rw [hq] at h; have h2 := HC.out; simp only [cntO] at h2 h ⊢; simp only [if_true] at h; omega), keepW HB.out HB2.out⟩
        case measure => have h1 := HSZ.out; have h2 := size_pos f; simp [natOf]; omega
      | false =>
        rw [hq] at ha hc2
        clear ho hc hc2 hs2 hs3 hsz hb hkj
        rw [hv]
        clear hv
        go_wp2_with (go_at_call 25; rw [← Er.val_eq]; refine (HU.out _ HF.out).mono ?_; rintro ev w2 ⟨rfl, hb2⟩; have HB2 := Lib.hid hb2; clear hb2)
        go_roundw
        case rel => exact ⟨f.un, k, j + 1, rfl, rfl, by go_num, (by have h := Er.un_lies HF.out; cases hu : f.un with | none => trivial | some g => rw [hu] at h; exact Er.lies.keep HB2.out h), by have := HS2.out; have := HSZ.out; omega, by have := HKJ.out; omega, (by have h := HC2.out; rw [hq] at h; have h2 := HC.out; simp only [cntO] at h2 h ⊢; simp only [Bool.false_eq_true, if_false] at h; omega), keepW HB.out HB2.out⟩
        case measure => have h1 := HSZ.out; have h2 := size_pos f; simp [natOf]; omega
end Go.Proofs.YtidkpdabidlnnaaGreatDoor


/-
  What an error wraps comes to an end.
-/





namespace Go.Proofs.YtidkpdabidlnnaaGreatDoor

open Go.RowKit

set_option maxRecDepth 100000

def vE (e : Er) : Value := .iface e.ty e.cont
def totE (l : List Er) : Nat := (l.map Er.size).sum
theorem totE_len (l : List Er) : l.length ≤ totE l := by
  induction l with
  | nil => exact Nat.le_refl _
  | cons e l ih => have := size_pos e; simp only [totE, List.map_cons, List.sum_cons, List.length_cons] at ih ⊢; omega
theorem totE_app (a b : List Er) : totE (a ++ b) = totE a + totE b := by simp [totE]
theorem info_err : (Tryz.prog.info? 27).map (fun i => (i.zero, i.size, i.bytes)) = some (some .nilIface, 1, 16) := by kernel_rfl
theorem info3 {t : TypeId} {z : Value} {n b : Nat} (h : (Tryz.prog.info? t).map (fun i => (i.zero, i.size, i.bytes)) = some (some z, n, b)) : ∃ i, Tryz.prog.info? t = some i ∧ i.zero = some z ∧ i.size = n ∧ i.bytes = b := by
  obtain ⟨i, hi, h2⟩ := Option.map_eq_some_iff.1 h
  simp only [Prod.mk.injEq] at h2
  exact ⟨i, hi, h2.1, h2.2.1, h2.2.2⟩
theorem own_pos {w : World} {base n : Nat} {e : TypeId} {v : Value} {xs : List Value} (h : w.ownsRow base e 1 v n xs) (hn : 0 < n) : ∃ g cap, v = .slice (some ⟨g, 0, none⟩) n cap ∧ n ≤ cap := by
  rcases h.2 with ⟨_, h0⟩ | ⟨g, cap, cur, hv, _, _, hc, _⟩
  · omega
  · exact ⟨g, cap, hv, hc⟩
theorem own_pop {w : World} {base n cap g : Nat} {e : TypeId} {xs : List Value} {x : Value} (h : w.ownsRow base e 1 (.slice (some ⟨g, 0, none⟩) (n + 1) cap) (n + 1) (xs ++ [x])) : w.ownsRow base e 1 (.slice (some ⟨g, 0, none⟩) n cap) n xs := by
  have hl := h.1
  simp at hl
  refine ⟨by omega, .inr ?_⟩
  rcases h.2 with ⟨hv, _⟩ | ⟨g', cap', cur, hv, hb, hB, hc, hm, hs, ht⟩
  · cases hv
  · cases hv
    refine ⟨g, cap, cur, rfl, hb, hB, by omega, hm, hs, ?_⟩
    have : cur.toList.take (n * 1) = (cur.toList.take ((n + 1) * 1)).take n := by rw [List.take_take, Nat.mul_one, Nat.mul_one, Nat.min_eq_left (by omega)]
    rw [this, ht, ← hl, List.take_left]
theorem own_below {w w' : World} {base : Nat} {e : TypeId} {n : Nat} {v : Value} {xs : List Value} (h : w.ownsRow base e 1 v n xs) (hb : Below w.heap.size w w') : w'.ownsRow base e 1 v n xs := by
  refine ⟨h.1, ?_⟩
  rcases h.2 with hn | ⟨g, cap, cur, rfl, hg, hB, rest⟩
  · exact .inl hn
  · exact .inr ⟨g, cap, cur, rfl, hg, Blk.keep (T := e) hb hB, rest⟩

theorem isJoin_of {e : Er} (hj : e.isJoin = true) : ∃ b r a f, e = .join b r a f := by
  cases e <;> first | exact ⟨_, _, _, _, rfl⟩ | cases hj
def EndR (e : Er) (w : World) (v s : Value) (wr : World) : Prop := ∃ (st : List Er) (j : Nat), wr.ownsRow w.heap.size 27 1 v st.length (st.map vE) ∧ s = .int .i64 (j : Int) ∧ (∀ f ∈ st, f.lies w) ∧ j + totE st ≤ e.size ∧ Below w.heap.size w wr
theorem EndR.next {e f g : Er} {w w2 : World} {v : Value} {init : List Er} {j : Nat} (hs : ∀ f ∈ init, f.lies w) (hg : g.lies w) (hsz : j + totE (init ++ [f]) ≤ e.size) (hu : g.size < f.size)
    (hown : w2.ownsRow w.heap.size 27 1 v (init.length + 1) (init.map vE ++ [vE g])) (hb : Below w.heap.size w w2) : EndR e w v (.int .i64 ((j : Int) + 1)) w2 := by
  refine ⟨init ++ [g], j + 1, ?_, rfl, ?_, ?_, hb⟩
  · rw [List.length_append, List.map_append]; exact hown
  · intro x hx
    rcases List.mem_append.1 hx with h | h
    · exact hs x h
    · rw [List.mem_singleton] at h; subst h; exact hg
  · rw [totE_app] at hsz ⊢
    simp [totE] at hsz ⊢
    omega
set_option maxHeartbeats 4000000 in
theorem ends_any (e : Er) (w : World) (hl : e.lies w) (hs : e.size ≤ 1000000) :
    Calls Tryz.prog 29 #[.iface e.ty e.cont] w fun ev w' => ev = .returned (.bool true) ∧ Below w.heap.size w w' := by
  obtain ⟨i0, hi0, hz0, hz1, hz2⟩ := info3 info_err
  have HL := Lib.hid hl; have HS := Lib.hid hs; have HI := Lib.hid hi0; have HZ0 := Lib.hid hz0; have HZ1 := Lib.hid hz1; have HZ2 := Lib.hid hz2
  clear hl hs hi0 hz0 hz1 hz2
  go_enter Tryz.func29, Tryz.ntmps29
  go_wp2
  go_loopw [3, 4] (fun v s wr => EndR e w v s wr) (fun _ s _ => 1000001 - natOf s)
  case atStart => exact ⟨[e], 0, World.ownsRow_lit w #[vE e] 1 (Nat.le_refl _) (by decide) rfl, rfl, fun f hf => by rw [List.mem_singleton] at hf; subst hf; exact HL.out, by simp [totE], (Below.refl _ w).alloc (Nat.le_refl _) _⟩
  case round =>
    obtain ⟨st, j, hown, rfl, hst, hsz, hb⟩ := hrel
    rcases List.eq_nil_or_concat st with rfl | ⟨init, f, rfl⟩
    · have hjj : (j : Int) ≤ 1000000 := by have := HS.out; omega
      have HB := Lib.hid hb
      clear hb hst hsz
      rcases hown.2 with ⟨hv, _⟩ | ⟨g, cap, cur, hv, _⟩
      · subst hv
        clear hown
        go_wp2
        go_ret
        exact ⟨rfl, HB.out⟩
      · subst hv
        clear hown
        go_wp2
        go_ret
        exact ⟨rfl, HB.out⟩
    · rw [List.concat_eq_append] at hown hst hsz
      rw [List.length_append, List.map_append] at hown
      obtain ⟨g, cap, hv, hcap⟩ := own_pos hown (by simp)
      subst hv
      obtain ⟨m, hm⟩ : ∃ m, init.length = m := ⟨_, rfl⟩
      have hown' : wr.ownsRow w.heap.size 27 1 (.slice (some ⟨g, 0, none⟩) (m + 1) cap) (m + 1) (init.map vE ++ [vE f]) := by rw [← hm]; exact hown
      have hcell : wr.cell? ⟨g, m, none⟩ = some (.iface f.ty f.cont) := by
        rw [hown'.cellAt m (by omega), List.getElem?_append_right (by rw [List.length_map]; omega), List.length_map, hm, Nat.sub_self]; rfl
      have hpop := own_pop hown'
      have hln := totE_len (init ++ [f])
      rw [List.length_append, hm] at hln
      have hj0 : (j : Int) + (m : Int) + 1 ≤ 1000000 := by have := HS.out; simp at hln; omega
      have hcap' : (m : Int) + 1 ≤ (cap : Int) := by simp at hcap; omega
      have hfl : f.lies w := hst f (by simp)
      have hin : ∀ x ∈ init, x.lies w := fun x hx => hst x (by simp [hx])
      have e1 : init.length + [f].length = m + 1 := by rw [hm]; rfl
      rw [e1]
      have hall : j + totE (init ++ [f]) ≤ e.size := hsz
      have HIN := Lib.hid hin; have HFL := Lib.hid hfl; have HALL := Lib.hid hall; have HM := Lib.hid hm; have HB := Lib.hid hb; have HPOP := Lib.hid hpop
      have hfw := Er.lies.keep hb hfl
      have HFW := Lib.hid hfw
      have HJ0 := Lib.hid hj0
      clear hj0
      have hlt0 : ¬ ((m : Int) < 0) := by omega
      have hj1 : (j : Int) + ((m : Int) + 1) ≤ 1048576 := by have := HJ0.out; omega
      have hjb : (j : Int) ≤ 1000000 := by have := HJ0.out; omega
      have hmb : (m : Int) ≤ 1000000 := by have := HJ0.out; omega
      clear hown hown' hpop hln hst hsz hb hfl hin e1 hall hm hfw hcap
      cases hu : f.un with
      | some h =>
        have u1 := asUn_some hu
        have m1 := mUn_some hu
        have hc := fun w => unf_calls hu w
        have hsz := Er.un_size hu
        have hhl : h.lies w := by have h1 := Er.un_lies HFL.out; rw [hu] at h1; exact h1
        have HSZ := Lib.hid hsz; have HHL := Lib.hid hhl
        rcases unf_cases hu with h3 | h3 | h3
        · rw [h3] at m1 hc
          have HC := Lib.hid hc
          clear hc hu hsz hhl h3
          go_wp2_with (first
            | (go_at_call 149; refine (HC.out _ HFW.out).mono ?_; rintro ev w2 ⟨rfl, hb2⟩; have HPOP2 := Lib.hid (own_below HPOP.out hb2); have HB3 := Lib.hid (keepW HB.out hb2); clear hb2)
            | (at_builtin; go_loud (refine wpList_append_own _ rfl _ _ 90 rfl w.heap.size 27 i0 .nilIface 1 16 Tryz.underlying90 HI.out HZ0.out HZ1.out HZ2.out rfl (by decide) _ _ _ rfl (HPOP2.out.alloc _) ⟨w2.heap.size, 0, none⟩ 1 1 [.iface h.ty h.cont] rfl rfl ?c1 ?c2 ?c3 ?c4 ?c5 ?_)))
          case c1 => exact World.news_of_block (heap_alloc_new _ _)
          case c2 => intro u hu; rw [List.mem_singleton] at hu; subst hu; rfl
          case c3 => unfold maxLen; omega
          case c4 => omega
          case c5 => have := HB3.out.size; simp; omega
          intro v' w6 own6 grow6 _
          have hE7 : Below w.heap.size w w6 := (HB3.out.alloc HB3.out.size _).grown grow6 (by have := HB3.out.size; simp; omega) (fun q hq => ((HPOP2.out.alloc (.cells #[.iface h.ty h.cont] 27)).lt q hq).1)
          have hN := EndR.next HIN.out HHL.out HALL.out HSZ.out (by rw [HM.out]; exact own6) hE7
          have HN := Lib.hid hN
          clear own6 grow6 hE7 hN
          go_wp2
          exact ⟨HN.out, by have := HJ0.out; simp only [natOf]; omega⟩
        · rw [h3] at m1 hc
          have HC := Lib.hid hc
          clear hc hu hsz hhl h3
          go_wp2_with (first
            | (go_at_call 152; refine (HC.out _ HFW.out).mono ?_; rintro ev w2 ⟨rfl, hb2⟩; have HPOP2 := Lib.hid (own_below HPOP.out hb2); have HB3 := Lib.hid (keepW HB.out hb2); clear hb2)
            | (at_builtin; go_loud (refine wpList_append_own _ rfl _ _ 90 rfl w.heap.size 27 i0 .nilIface 1 16 Tryz.underlying90 HI.out HZ0.out HZ1.out HZ2.out rfl (by decide) _ _ _ rfl (HPOP2.out.alloc _) ⟨w2.heap.size, 0, none⟩ 1 1 [.iface h.ty h.cont] rfl rfl ?c1 ?c2 ?c3 ?c4 ?c5 ?_)))
          case c1 => exact World.news_of_block (heap_alloc_new _ _)
          case c2 => intro u hu; rw [List.mem_singleton] at hu; subst hu; rfl
          case c3 => unfold maxLen; omega
          case c4 => omega
          case c5 => have := HB3.out.size; simp; omega
          intro v' w6 own6 grow6 _
          have hE7 : Below w.heap.size w w6 := (HB3.out.alloc HB3.out.size _).grown grow6 (by have := HB3.out.size; simp; omega) (fun q hq => ((HPOP2.out.alloc (.cells #[.iface h.ty h.cont] 27)).lt q hq).1)
          have hN := EndR.next HIN.out HHL.out HALL.out HSZ.out (by rw [HM.out]; exact own6) hE7
          have HN := Lib.hid hN
          clear own6 grow6 hE7 hN
          go_wp2
          exact ⟨HN.out, by have := HJ0.out; simp only [natOf]; omega⟩
        · rw [h3] at m1 hc
          have HC := Lib.hid hc
          clear hc hu hsz hhl h3
          go_wp2_with (first
            | (go_at_call 147; refine (HC.out _ HFW.out).mono ?_; rintro ev w2 ⟨rfl, hb2⟩; have HPOP2 := Lib.hid (own_below HPOP.out hb2); have HB3 := Lib.hid (keepW HB.out hb2); clear hb2)
            | (at_builtin; go_loud (refine wpList_append_own _ rfl _ _ 90 rfl w.heap.size 27 i0 .nilIface 1 16 Tryz.underlying90 HI.out HZ0.out HZ1.out HZ2.out rfl (by decide) _ _ _ rfl (HPOP2.out.alloc _) ⟨w2.heap.size, 0, none⟩ 1 1 [.iface h.ty h.cont] rfl rfl ?c1 ?c2 ?c3 ?c4 ?c5 ?_)))
          case c1 => exact World.news_of_block (heap_alloc_new _ _)
          case c2 => intro u hu; rw [List.mem_singleton] at hu; subst hu; rfl
          case c3 => unfold maxLen; omega
          case c4 => omega
          case c5 => have := HB3.out.size; simp; omega
          intro v' w6 own6 grow6 _
          have hE7 : Below w.heap.size w w6 := (HB3.out.alloc HB3.out.size _).grown grow6 (by have := HB3.out.size; simp; omega) (fun q hq => ((HPOP2.out.alloc (.cells #[.iface h.ty h.cont] 27)).lt q hq).1)
          have hN := EndR.next HIN.out HHL.out HALL.out HSZ.out (by rw [HM.out]; exact own6) hE7
          have HN := Lib.hid hN
          clear own6 grow6 hE7 hN
          go_wp2
          exact ⟨HN.out, by have := HJ0.out; simp only [natOf]; omega⟩
      | none =>
        have u1 := asUn_none hu
        have u2 := asUs_any f
        cases hj : f.isJoin with
        | false =>
          rw [hj] at u2
          simp only [Bool.false_eq_true, if_false] at u2
          clear hu hj
          go_wp2
          have hN : EndR e w (.slice (some ⟨g, 0, none⟩) m cap) (.int .i64 ((j : Int) + 1)) wr := by
            refine ⟨init, j + 1, ?_, rfl, HIN.out, ?_, HB.out⟩
            · rw [HM.out]; exact HPOP.out
            · have h1 := HALL.out
              have h2 := size_pos f
              rw [totE_app] at h1
              simp only [totE, List.map_cons, List.map_nil, List.sum_cons, List.sum_nil] at h1 ⊢
              omega
          exact ⟨hN, by have := HJ0.out; simp only [natOf]; omega⟩
        | true =>
          obtain ⟨b, r, a, h, rfl⟩ := isJoin_of hj
          rw [hj] at u2
          simp only [if_true] at u2
          have m1 := mUs_join b r a h
          have hc := fun w => unfJ_calls (b := b) (r := r) (a := a) (e := h) w
          have HC := Lib.hid hc
          obtain ⟨c0, c1⟩ := join_cells HFW.out
          have hnews : ∀ (j : Nat) (u : Value), [vE (.oth a), vE h][j]? = some u → wr.cell? ((⟨r, 0, none⟩ : Addr).add j) = some u := fun j u hju => by
            have hadd : (⟨r, 0, none⟩ : Addr).add j = ⟨r, 0 + j, none⟩ := by unfold Addr.add; split <;> simp_all
            rw [hadd, Nat.zero_add]
            match j, hju with
            | 0, hju => rw [c0]; exact hju
            | 1, hju => rw [c1]; exact hju
          have HNW := Lib.hid hnews
          clear hc hu hj c0 c1 hnews
          go_wp2_with (first
            | (go_at_call 154; refine (HC.out _ HFW.out).mono ?_; rintro ev w2 ⟨rfl, rfl⟩)
            | (at_builtin; go_loud (refine wpList_append_own _ rfl _ _ 90 rfl w.heap.size 27 i0 .nilIface 1 16 Tryz.underlying90 HI.out HZ0.out HZ1.out HZ2.out rfl (by decide) _ _ _ rfl HPOP.out ⟨r, 0, none⟩ 2 2 [vE (.oth a), vE h] rfl rfl ?c1 ?c2 ?c3 ?c4 ?c5 ?_)))
          case c1 => exact HNW.out
          case c2 => intro u hu; rcases List.mem_cons.1 hu with rfl | hu; rfl; rw [List.mem_singleton] at hu; subst hu; rfl
          case c3 => unfold maxLen; omega
          case c4 => omega
          case c5 => have := HB.out.size; simp; omega
          intro v' w6 own6 grow6 _
          have hE7 : Below w.heap.size w w6 := HB.out.grown grow6 (by have := HB.out.size; simp; omega) (fun q hq => (HPOP.out.lt q hq).1)
          have hN : EndR e w v' (.int .i64 ((j : Int) + 1)) w6 := by
            refine ⟨init ++ [.oth a, h], j + 1, ?_, rfl, ?_, ?_, hE7⟩
            · rw [List.length_append, List.map_append, HM.out]; exact own6
            · intro x hx
              rcases List.mem_append.1 hx with hx | hx
              · exact HIN.out x hx
              · rcases List.mem_cons.1 hx with rfl | hx
                · exact HFL.out.2.2.1
                · rw [List.mem_singleton] at hx; subst hx; exact HFL.out.2.2.2
            · have h1 := HALL.out
              rw [totE_app] at h1 ⊢
              simp only [totE, Er.size, List.map_cons, List.map_nil, List.sum_cons, List.sum_nil] at h1 ⊢
              omega
          have HN := Lib.hid hN
          clear own6 grow6 hE7 hN
          go_wp2
          exact ⟨HN.out, by have := HJ0.out; simp only [natOf]; omega⟩
end Go.Proofs.YtidkpdabidlnnaaGreatDoor


/-
  The notes that an error begins with, and what they are around.
-/

namespace Go.Proofs.YtidkpdabidlnnaaGreatDoor

open Go.RowKit

set_option maxRecDepth 100000

def wordsE : Er → List ByteArray
  | .note _ wd e => wd :: wordsE e
  | _ => []
def innerE : Er → Er
  | .note _ _ e => innerE e
  | e => e
theorem isNote_of {e : Er} (h : e.isNote = true) : ∃ b wd f, e = .note b wd f := by
  cases e <;> first | exact ⟨_, _, _, rfl⟩ | cases h
theorem words_leaf {e : Er} (h : e.isNote = false) : wordsE e = [] ∧ innerE e = e := by
  cases e <;> first | exact ⟨rfl, rfl⟩ | cases h
theorem words_le (e : Er) : (wordsE e).length ≤ e.size := by
  induction e with
  | note b wd e ih => simp only [wordsE, List.length_cons, Er.size]; omega
  | _ => exact Nat.zero_le _
def strV (s : ByteArray) : Value := .string s
theorem info_str : (Tryz.prog.info? 9).map (fun i => (i.zero, i.size, i.bytes)) = some (some (.string ByteArray.empty), 1, 16) := by kernel_rfl
/-- A row of strings of one's own. -/
def Row (base : Nat) (w : World) (v : Value) (l : List ByteArray) : Prop := w.ownsRow base 9 1 v l.length (l.map strV)
set_option maxHeartbeats 4000000 in
theorem peel_any (e : Er) (w : World) (hl : e.lies w) (hs : e.size ≤ 1000000) :
    Calls Tryz.prog 30 #[.iface e.ty e.cont] w fun ev w' => ∃ v, ev = .returned (.tuple #[v, .iface (innerE e).ty (innerE e).cont]) ∧ Row w.heap.size w' v (wordsE e) ∧ Below w.heap.size w w' := by
  obtain ⟨i0, hi0, hz0, hz1, hz2⟩ := info3 info_str
  have HL := Lib.hid hl; have HS := Lib.hid hs; have HI := Lib.hid hi0; have HZ0 := Lib.hid hz0; have HZ1 := Lib.hid hz1; have HZ2 := Lib.hid hz2
  clear hl hs hi0 hz0 hz1 hz2
  go_enter Tryz.func30, Tryz.ntmps30
  go_wp2
  go_loopw [0, 2] (fun x v wr => ∃ (f : Er) (done : List ByteArray), x = .iface f.ty f.cont ∧ f.lies w ∧ Row w.heap.size wr v done ∧ done ++ wordsE f = wordsE e ∧ innerE f = innerE e ∧ Below w.heap.size w wr) (fun x _ _ => szv w x)
  case atStart => exact ⟨e, [], rfl, HL.out, World.ownsRow_nil _ _ _ _, rfl, rfl, Below.refl _ _⟩
  case round =>
    obtain ⟨f, done, rfl, hf, hrow, hw, hi, hb⟩ := hrel
    have ha := asN_any f
    cases hq : f.isNote with
    | false =>
      rw [hq] at ha
      obtain ⟨w1, w2⟩ := words_leaf hq
      rw [w1, List.append_nil] at hw
      rw [w2] at hi
      subst hi
      subst hw
      have HROW := Lib.hid hrow; have HB := Lib.hid hb
      clear hf hrow hb hq w1 w2
      go_wp2
      go_ret2
      exact ⟨_, rfl, HROW.out, HB.out⟩
    | true =>
      rw [hq] at ha
      obtain ⟨b, wd, g, rfl⟩ := isNote_of hq
      have ha' : ∀ (xT : TypeId) (w : World), (Instr.typeAssert (.iface (Er.note b wd g).ty (Er.note b wd g).cont) xT 80 true).run Tryz.prog w = .ok (.tuple #[.pointer (some ⟨b, 0, none⟩), .bool true]) w := ha
      have hB := Blk.keep hb hf.1
      have c0 : wr.cell? ⟨b, 0, none⟩ = some (.string wd) := hB.cell 0
      have hlen : done.length ≤ 1000000 := by
        have h1 := congrArg List.length hw
        have h2 := words_le e
        rw [List.length_append] at h1
        have := HS.out; omega
      have hlt : b < w.heap.size := hf.1.lt
      have HF := Lib.hid hf; have HROW := Lib.hid hrow; have HW := Lib.hid hw; have HIN := Lib.hid hi; have HB := Lib.hid hb; have HBK := Lib.hid hB; have HLT := Lib.hid hlt; have HLEN := Lib.hid hlen
      clear hf hrow hw hi hb hB hlt hlen ha hq
      go_wp2_with (at_builtin; go_loud (refine wpList_append_own _ rfl _ _ 23 rfl w.heap.size 9 i0 (.string ByteArray.empty) 1 16 Tryz.underlying23 HI.out HZ0.out HZ1.out HZ2.out rfl (by decide) _ _ _ rfl (HROW.out.alloc _) ⟨wr.heap.size, 0, none⟩ 1 1 [.string wd] rfl rfl ?c1 ?c2 ?c3 ?c4 ?c5 ?_))
      case c1 => exact World.news_of_block (heap_alloc_new _ _)
      case c2 => intro u hu; rw [List.mem_singleton] at hu; subst hu; rfl
      case c3 => have := HLEN.out; unfold maxLen; omega
      case c4 => have := HLEN.out; omega
      case c5 => have := HB.out.size; simp; omega
      intro v' w6 own6 grow6 _
      have hE7 : Below w.heap.size w w6 := (HB.out.alloc HB.out.size _).grown grow6 (by have := HB.out.size; simp; omega) (fun q hq => ((HROW.out.alloc (.cells #[.string wd] 9)).lt q hq).1)
      have c1 : w6.cell? ⟨b, 1, none⟩ = some (.iface g.ty g.cont) := by
        have h := (Blk.keep hE7 HF.out.1).cell 1
        rw [← Er.val_eq]; exact h
      have hR : Row w.heap.size w6 v' (done ++ [wd]) := by
        show w6.ownsRow w.heap.size 9 1 v' (done ++ [wd]).length ((done ++ [wd]).map strV)
        rw [List.length_append, List.map_append]; exact own6
      have HR := Lib.hid hR; have HE := Lib.hid hE7
      clear own6 grow6 hE7 hR
      go_wp2
      refine ⟨⟨g, done ++ [wd], rfl, HF.out.2, HR.out, by rw [List.append_assoc]; exact HW.out, HIN.out, HE.out⟩, ?_⟩
      have h1 := szv_of HF.out
      have h2 := szv_of (e := g) (w := w) HF.out.2
      rw [h1, h2]
      exact Nat.lt_succ_self _
end Go.Proofs.YtidkpdabidlnnaaGreatDoor


/-
  errors.Is through whatever errors there are.
-/


namespace Go.Proofs.YtidkpdabidlnnaaGreatDoor

open Go.RowKit

set_option maxRecDepth 100000

/-- Is there one that meets q? -/
def has (q : Er → Bool) : Er → Bool
  | .sort k => q (.sort k)
  | .flt k o => q (.flt k o) || q (.sort k)
  | .oth a => q (.oth a)
  | .note b wd e => q (.note b wd e) || has q e
  | .arnd e => q (.arnd e) || has q e
  | .join b r a e => q (.join b r a e) || (q (.oth a) || has q e)
theorem has_un {q : Er → Bool} {e f : Er} (h : e.un = some f) : has q e = (q e || has q f) := by
  cases e <;> simp only [Er.un, Option.some.injEq, reduceCtorEq] at h <;> subst h <;> rfl
theorem has_leaf {q : Er → Bool} {e : Er} (h : e.un = none) (hj : e.isJoin = false) : has q e = q e := by
  cases e <;> first | cases h; done | cases hj; done | rfl
theorem has_join {e : Er} (hj : e.isJoin = true) : ∃ b r a f, e = .join b r a f := by
  cases e <;> first | exact ⟨_, _, _, _, rfl⟩ | cases hj

set_option maxHeartbeats 2000000 in
theorem is_any (tv : Value) (q : Er → Bool) (W0 : World) (heq : ∀ (e : Er) (w : World), Below W0.heap.size W0 w → e.lies w → (binOp .eql 27 (.iface e.ty e.cont) tv).run Tryz.prog w = .ok (.bool (q e)) w) :
    ∀ (n : Nat) (e : Er), e.size ≤ n → ∀ (w : World), Below W0.heap.size W0 w → e.lies w →
      Calls Tryz.prog 39 #[.iface e.ty e.cont, tv, .bool true] w fun ev w' => ev = .returned (.bool (has q e)) ∧ Below w.heap.size w w' := by
  intro n
  induction n with
  | zero => intro e h; cases e <;> simp [Er.size] at h
  | succ n ih =>
    intro e hsz w hW hl
    have HQ := Lib.hid heq; have IH := Lib.hid ih; have HS := Lib.hid hsz; have HW := Lib.hid hW; have HL := Lib.hid hl
    clear heq ih hsz hW hl
    go_enter Tryz.func39, Tryz.ntmps39
    go_wp2
    go_loopw [0] (fun v wr => ∃ f : Er, v = .iface f.ty f.cont ∧ f.lies wr ∧ f.size ≤ n + 1 ∧ has q e = has q f ∧ Below w.heap.size w wr) (fun v wr => szv wr v)
    case atStart => exact ⟨e, rfl, HL.out, HS.out, rfl, Below.refl _ _⟩
    case round =>
      obtain ⟨f, rfl, hf, hfs, hh, hb⟩ := hrel
      have he := HQ.out f wr (HW.out.trans (hb.mono HW.out.size)) hf
      have ha := asIs_any f
      have HF := Lib.hid hf; have HFS := Lib.hid hfs; have HB := Lib.hid hb
      by_cases hq : q f = true
      · rw [hq] at he
        have hr : has q e = true := by
          rw [hh]
          cases hu : f.un with
          | some g => rw [has_un hu, hq]; rfl
          | none =>
            cases hj : f.isJoin with
            | true => obtain ⟨b, r, a, g, rfl⟩ := has_join hj; show (q _ || _) = true; rw [hq]; rfl
            | false => rw [has_leaf hu hj, hq]
        clear hh hf hfs hb
        go_wp2
        go_ret
        exact ⟨by rw [hr]; rfl, HB.out⟩
      · have hq' : q f = false := by simpa using hq
        rw [hq'] at he
        cases hu : f.un with
        | some g =>
          have hh' : has q e = has q g := by rw [hh, has_un hu, hq', Bool.false_or]
          have u1 := asUn_some hu
          have m1 := mUn_some hu
          have hn := eq_nil g
          have HU := Lib.hid hu; have HH := Lib.hid hh'
          clear hh hf hfs hb hu hh' hq hq'
          have hc := fun w => unf_calls HU.out w
          rcases unf_cases HU.out with h3 | h3 | h3
          · rw [h3] at m1 hc
            have HC := Lib.hid hc
            clear hc
            go_wp2_with (go_at_call 149; refine (HC.out _ HF.out).mono ?_; rintro ev w2 ⟨rfl, hb2⟩; have HB2 := Lib.hid hb2; clear hb2)
            go_roundw
            case rel => exact ⟨g, rfl, (by have := Er.un_lies HF.out; rw [HU.out] at this; exact Er.lies.keep HB2.out this), by have := Er.un_size HU.out; have := HFS.out; omega, HH.out, keepW HB.out HB2.out⟩
            case measure =>
              have h1 := szv_of HF.out
              have h2 := szv_of (e := g) (w := w2) (by have := Er.un_lies HF.out; rw [HU.out] at this; exact Er.lies.keep HB2.out this)
              rw [h1, h2]
              exact Er.un_size HU.out
          · rw [h3] at m1 hc
            have HC := Lib.hid hc
            clear hc
            go_wp2_with (go_at_call 152; refine (HC.out _ HF.out).mono ?_; rintro ev w2 ⟨rfl, hb2⟩; have HB2 := Lib.hid hb2; clear hb2)
            go_roundw
            case rel => exact ⟨g, rfl, (by have := Er.un_lies HF.out; rw [HU.out] at this; exact Er.lies.keep HB2.out this), by have := Er.un_size HU.out; have := HFS.out; omega, HH.out, keepW HB.out HB2.out⟩
            case measure =>
              have h1 := szv_of HF.out
              have h2 := szv_of (e := g) (w := w2) (by have := Er.un_lies HF.out; rw [HU.out] at this; exact Er.lies.keep HB2.out this)
              rw [h1, h2]
              exact Er.un_size HU.out
          · rw [h3] at m1 hc
            have HC := Lib.hid hc
            clear hc
            go_wp2_with (go_at_call 147; refine (HC.out _ HF.out).mono ?_; rintro ev w2 ⟨rfl, hb2⟩; have HB2 := Lib.hid hb2; clear hb2)
            go_roundw
            case rel => exact ⟨g, rfl, (by have := Er.un_lies HF.out; rw [HU.out] at this; exact Er.lies.keep HB2.out this), by have := Er.un_size HU.out; have := HFS.out; omega, HH.out, keepW HB.out HB2.out⟩
            case measure =>
              have h1 := szv_of HF.out
              have h2 := szv_of (e := g) (w := w2) (by have := Er.un_lies HF.out; rw [HU.out] at this; exact Er.lies.keep HB2.out this)
              rw [h1, h2]
              exact Er.un_size HU.out
        | none =>
          have u1 := asUn_none hu
          have u2 := asUs_any f
          cases hj : f.isJoin with
          | false =>
            have hr : has q e = false := by rw [hh, has_leaf hu hj, hq']
            rw [hj] at u2
            simp only [Bool.false_eq_true, if_false] at u2
            clear hh hf hfs hb hu hq hq' hj
            go_wp2
            go_ret
            exact ⟨by rw [hr]; rfl, HB.out⟩
          | true =>
            obtain ⟨b, r, a, g, rfl⟩ := has_join hj
            have hr : has q e = (q (.oth a) || has q g) := by rw [hh]; show (q _ || _) = _; rw [hq', Bool.false_or]
            rw [hj] at u2
            simp only [if_true] at u2
            have m1 := mUs_join b r a g
            have hc := fun w => unfJ_calls (b := b) (r := r) (a := a) (e := g) w
            obtain ⟨c0, c1⟩ := join_cells hf
            have hso : (Er.oth a).size ≤ n := by have h1 := hfs; simp only [Er.size] at h1 ⊢; cases g <;> simp only [Er.size] at h1 <;> omega
            have hsg : g.size ≤ n := by have h1 := hfs; simp only [Er.size] at h1; omega
            have hlo : (Er.oth a).lies wr := hf.2.2.1
            have hcell : ∀ w' : World, Below wr.heap.size wr w' → w'.cell? ⟨r, 1, none⟩ = some (.iface g.ty g.cont) := fun w' h => (join_cells (hf.keep h)).2
            have HCELL := Lib.hid hcell
            clear hcell
            have hlg : g.lies wr := hf.2.2.2
            have hW := HW.out.trans (hb.mono HW.out.size)
            have hc0 := IH.out (.oth a) hso wr hW hlo
            have HR := Lib.hid hr; have HC := Lib.hid hc; have HC0 := Lib.hid hc0; have HSG := Lib.hid hsg; have HLG := Lib.hid hlg; have HW2 := Lib.hid hW
            clear hh hf hfs hb hu hq hq' hj hr hc hc0 hso hsg hlo hlg hW
            by_cases hqo : q (.oth a) = true
            · go_wp2_with (go_at_call 154; refine (HC.out _ HF.out).mono ?_; rintro ev w2 ⟨rfl, rfl⟩)
              refine wp_loop_rounds 3 ?_
              rw [rounds_succ]
              have hho : has q (.oth a) = true := hqo
              rw [hho] at HC0
              go_wp2_with (go_at_call 39; refine HC0.out.mono ?_; rintro ev w3 ⟨rfl, hb3⟩; have HB3 := Lib.hid hb3; clear hb3)
              go_ret
              exact ⟨by rw [HR.out, hqo]; rfl, keepW HB.out HB3.out⟩
            · have hqo' : q (.oth a) = false := by simpa using hqo
              have hho : has q (.oth a) = false := hqo'
              rw [hho] at HC0
              go_wp2_with (go_at_call 154; refine (HC.out _ HF.out).mono ?_; rintro ev w2 ⟨rfl, rfl⟩)
              refine wp_loop_rounds 3 ?_
              rw [rounds_succ]
              go_wp2_with (go_at_call 39; refine HC0.out.mono ?_; rintro ev w3 ⟨rfl, hb3⟩; have HB3 := Lib.hid hb3; have c13 := HCELL.out _ hb3; clear hb3)
              have hc1 := IH.out g HSG.out w3 (keepW HW2.out HB3.out) (Er.lies.keep HB3.out HLG.out)
              have HC1 := Lib.hid hc1
              clear hc1
              rw [rounds_succ]
              by_cases hqg : has q g = true
              · rw [hqg] at HC1
                go_wp2_with (go_at_call 39; refine HC1.out.mono ?_; rintro ev w4 ⟨rfl, hb4⟩; have HB4 := Lib.hid hb4; clear hb4)
                go_ret
                exact ⟨by rw [HR.out, hqo', hqg]; rfl, keepW (keepW HB.out HB3.out) HB4.out⟩
              · have hqg' : has q g = false := by simpa using hqg
                rw [hqg'] at HC1
                go_wp2_with (go_at_call 39; refine HC1.out.mono ?_; rintro ev w4 ⟨rfl, hb4⟩; have HB4 := Lib.hid hb4; clear hb4)
                rw [rounds_succ]
                go_wp2
                go_ret
                exact ⟨by rw [HR.out, hqo', hqg']; rfl, keepW (keepW HB.out HB3.out) HB4.out⟩
end Go.Proofs.YtidkpdabidlnnaaGreatDoor


/-
  errors.Is at a sort, at a fault, at an error of errors.New's make.
-/

namespace Go.Proofs.YtidkpdabidlnnaaGreatDoor

open Go.RowKit Go.Extern.Stop Go.Stop Go.Extern

set_option maxRecDepth 100000

def qS (k : Int) : Er → Bool
  | .sort k' => k' == k
  | _ => false
def qF (k o : Int) : Er → Bool
  | .flt k' o' => k' == k && o' == o
  | _ => false
def qO (a : Nat) : Er → Bool
  | .oth a' => a' == a
  | _ => false
theorem isTypeOf_S (v : Value) (w : World) : (Extern.ReflectliteType.typeOf #[.iface 41 v]).run Tryz.prog w = .ok (.iface 113 (.agg #[.pointer (some ⟨9, 41, none⟩)])) w := by kernel_rfl
theorem isTypeOf_F (v : Value) (w : World) : (Extern.ReflectliteType.typeOf #[.iface 65 v]).run Tryz.prog w = .ok (.iface 113 (.agg #[.pointer (some ⟨9, 65, none⟩)])) w := by kernel_rfl
theorem isTypeOf_E (v : Value) (w : World) : (Extern.ReflectliteType.typeOf #[.iface 75 v]).run Tryz.prog w = .ok (.iface 113 (.agg #[.pointer (some ⟨9, 75, none⟩)])) w := by kernel_rfl
theorem isComp_S (w : World) : ((Extern.ReflectliteType.method fun t => do Rtype.noPackHeld "Comparable" t; (fun a => Value.bool a.comparable) <$> typeInfo t) #[.agg #[.pointer (some ⟨9, 41, none⟩)]]).run Tryz.prog w = .ok (.bool true) w := by kernel_rfl
theorem isComp_F (w : World) : ((Extern.ReflectliteType.method fun t => do Rtype.noPackHeld "Comparable" t; (fun a => Value.bool a.comparable) <$> typeInfo t) #[.agg #[.pointer (some ⟨9, 65, none⟩)]]).run Tryz.prog w = .ok (.bool true) w := by kernel_rfl
theorem isComp_E (w : World) : ((Extern.ReflectliteType.method fun t => do Rtype.noPackHeld "Comparable" t; (fun a => Value.bool a.comparable) <$> typeInfo t) #[.agg #[.pointer (some ⟨9, 75, none⟩)]]).run Tryz.prog w = .ok (.bool true) w := by kernel_rfl
theorem mComp (v : Value) (w : World) : (Go.method 326 113 v "Comparable").run Tryz.prog w = .ok (160, v) w := by kernel_rfl
theorem ne_types (tx ty : TypeId) (vx vy : Value) (hne : tx ≠ ty) (w : World) : (binOp .eql 27 (.iface tx vx) (.iface ty vy)).run Tryz.prog w = .ok (.bool false) w :=
  run_eql_iface_types tx ty vx vy Tryz.underlying27 hne w
theorem eq_sort (k k' : Int) (w : World) : (binOp .eql 27 (.iface 41 (.int .i64 k')) (.iface 41 (.int .i64 k))).run Tryz.prog w = .ok (.bool (k' == k)) w := by kernel_rfl
theorem eqIn_iface (d : Nat) (x y : Value) (w : World) : (Op.equalIn (d + 1) 27 (.iface 65 x) (.iface 65 y)).run Tryz.prog w = (Op.equalIn d 65 x y).run Tryz.prog w := by kernel_rfl
theorem eqIn_fields (d : Nat) (k o k' o' : Int) (w : World) : (Op.eqFields (d + 1) #[.int .i64 k', .int .i64 o'] #[.int .i64 k, .int .i64 o] (Tryz.prog.fieldsOf 65).toList).run Tryz.prog w
    = .ok (k' == k && o' == o) w := by
  obtain ⟨f1, f2, hf, n1, n2, t1, t2, o1, o2⟩ : ∃ f1 f2 : Field, (Tryz.prog.fieldsOf 65).toList = [f1, f2] ∧ f1.name ≠ "_" ∧ f2.name ≠ "_" ∧ f1.type = 22 ∧ f2.type = 2 ∧ f1.offset = 0 ∧ f2.offset = 1 := by
    have hm : (Tryz.prog.fieldsOf 65).toList.map (fun f => (f.name, f.type, f.offset)) = [("kind", 22, 0), ("off", 2, 1)] := by kernel_rfl
    generalize (Tryz.prog.fieldsOf 65).toList = L at hm
    have hl : L.length = 2 := by have := congrArg List.length hm; simpa using this
    obtain ⟨f1, f2, rfl⟩ : ∃ f1 f2, L = [f1, f2] := by
      match L, hl with
      | [a, b], _ => exact ⟨a, b, rfl⟩
    simp only [List.map_cons, List.map_nil, List.cons.injEq, Prod.mk.injEq, and_true] at hm
    obtain ⟨⟨a, b, c⟩, a', b', c'⟩ := hm
    exact ⟨f1, f2, rfl, by rw [a]; decide, by rw [a']; decide, b, b', c, c'⟩
  have p1 : ∀ (a b : Int) (w : World), (part 22 #[.int .i64 a, .int .i64 b] 0).run Tryz.prog w = .ok (.int .i64 a) w := fun a b w => by kernel_rfl
  have p2 : ∀ (a b : Int) (w : World), (part 2 #[.int .i64 a, .int .i64 b] 1).run Tryz.prog w = .ok (.int .i64 b) w := fun a b w => by kernel_rfl
  rw [hf]
  simp only [Op.eqFields, n1, n2, t1, t2, o1, o2, ne_eq, not_false_eq_true, if_true, Sem.run_bind, p1, Result.andThen_ok, run_equalIn_int _ d 22 .i64 _ _ _ Tryz.underlying22]
  cases k' == k
  · rfl
  · simp only [Bool.not_true, Bool.false_eq_true, if_false, Sem.run_bind, p2, Result.andThen_ok, run_equalIn_int _ d 2 .i64 _ _ _ Tryz.underlying2]
    cases o' == o <;> rfl
theorem eq_flt (k o k' o' : Int) (w : World) : (binOp .eql 27 (.iface 65 (.agg #[.int .i64 k', .int .i64 o'])) (.iface 65 (.agg #[.int .i64 k, .int .i64 o]))).run Tryz.prog w = .ok (.bool (k' == k && o' == o)) w := by
  have h : ∀ d : Nat, (Op.equalIn (d + 3) 27 (.iface 65 (.agg #[.int .i64 k', .int .i64 o'])) (.iface 65 (.agg #[.int .i64 k, .int .i64 o]))).run Tryz.prog w = .ok (k' == k && o' == o) w := fun d => by
    rw [eqIn_iface, run_equalIn_struct w (d + 1) 65 _ _ (by kernel_rfl) (by kernel_rfl), eqIn_fields]
  simp only [binOp]
  simp [Op.equal, Op.maxDepth, h 9997]
theorem heq_S (k : Int) (e : Er) (w : World) : (binOp .eql 27 (.iface e.ty e.cont) (.iface 41 (.int .i64 k))).run Tryz.prog w = .ok (.bool (qS k e)) w := by
  cases e
  · exact eq_sort _ _ _
  all_goals exact ne_types _ _ _ _ (by simp only [Er.ty]; decide) _
theorem heq_F (k o : Int) (e : Er) (w : World) : (binOp .eql 27 (.iface e.ty e.cont) (.iface 65 (.agg #[.int .i64 k, .int .i64 o]))).run Tryz.prog w = .ok (.bool (qF k o e)) w := by
  cases e with
  | flt k' o' => exact eq_flt _ _ _ _ _
  | _ => exact ne_types _ _ _ _ (by simp only [Er.ty]; decide) _
theorem heq_O (a : Nat) (W0 : World) (s : ByteArray) (ha : Blk W0 a #[.string s] 77) (e : Er) (w : World) (hb : Below W0.heap.size W0 w) (hl : e.lies w) : (binOp .eql 27 (.iface e.ty e.cont) (.iface 75 (.pointer (some ⟨a, 0, none⟩)))).run Tryz.prog w = .ok (.bool (qO a e)) w := by
  cases e with
  | oth a' =>
    obtain ⟨i, hi, hcmp⟩ := Option.map_eq_some_iff.1 (show (Tryz.prog.info? 75).map (·.comparable) = some true by kernel_rfl)
    obtain ⟨j, hj, hjs⟩ := Option.map_eq_some_iff.1 (show (Tryz.prog.info? 77).map (·.size) = some 1 by kernel_rfl)
    show (binOp .eql 27 (.iface 75 (.pointer (some ⟨a', 0, none⟩))) (.iface 75 (.pointer (some ⟨a, 0, none⟩)))).run Tryz.prog w = .ok (.bool (a' == a)) w
    by_cases h : a' = a
    · subst h
      rw [beq_self_eq_true]
      exact run_eql_iface_ptr_same (P := Tryz.prog) w _ Tryz.underlying27 Tryz.underlying75 hi hcmp hj
    · have hx : (a' == a) = false := by rw [beq_eq_false_iff_ne]; exact h
      rw [hx]
      obtain ⟨s', hs'⟩ := hl
      exact run_eql_iface_ptr_other (P := Tryz.prog) w Tryz.underlying27 Tryz.underlying75 hi hcmp hj (by rw [hjs]; decide) (fun e => h (by cases e; rfl)) hs' (Blk.keep hb ha)
  | _ => exact ne_types _ _ _ _ (by simp only [Er.ty]; decide) _
/-- errors.Is at a sort. -/
theorem Is_sort (k : Int) (e : Er) (w : World) (hl : e.lies w) : Calls Tryz.prog 23 #[.iface e.ty e.cont, .iface 41 (.int .i64 k)] w fun ev w' => ev = .returned (.bool (has (qS k) e)) ∧ Below w.heap.size w w' := by
  have HC := Lib.hid fun _ : Unit => is_any (.iface 41 (.int .i64 k)) (qS k) w (fun e w _ _ => heq_S k e w) _ e (Nat.le_refl _) w (Below.refl _ _) hl
  clear hl
  have h38 := @run_callFunc_extern Tryz.prog 38 _ Extern.ReflectliteType.typeOf Tryz.func38 (by kernel_rfl) (by kernel_rfl) (by kernel_rfl) (by kernel_rfl)
  have h160 := @run_callFunc_extern Tryz.prog 160 _ (Extern.ReflectliteType.method fun t => do Rtype.noPackHeld "Comparable" t; pure (.bool (← typeInfo t).comparable)) Tryz.func160 (by kernel_rfl) (by kernel_rfl) (by kernel_rfl) (by kernel_rfl)
  have tO := isTypeOf_S
  have cT := isComp_S
  have mR := mComp
  have hn := eq_nil e
  go_enter Tryz.func23, Tryz.ntmps23
  go_wp2_with (go_at_call 39; refine (HC.out ()).mono ?_; rintro ev w2 ⟨rfl, hb⟩; have HB := Lib.hid hb; clear hb)
  go_ret
  exact ⟨rfl, HB.out⟩
/-- errors.Is at a fault. -/
theorem Is_flt (k o : Int) (e : Er) (w : World) (hl : e.lies w) : Calls Tryz.prog 23 #[.iface e.ty e.cont, .iface 65 (.agg #[.int .i64 k, .int .i64 o])] w fun ev w' => ev = .returned (.bool (has (qF k o) e)) ∧ Below w.heap.size w w' := by
  have HC := Lib.hid fun _ : Unit => is_any (.iface 65 (.agg #[.int .i64 k, .int .i64 o])) (qF k o) w (fun e w _ _ => heq_F k o e w) _ e (Nat.le_refl _) w (Below.refl _ _) hl
  clear hl
  have h38 := @run_callFunc_extern Tryz.prog 38 _ Extern.ReflectliteType.typeOf Tryz.func38 (by kernel_rfl) (by kernel_rfl) (by kernel_rfl) (by kernel_rfl)
  have h160 := @run_callFunc_extern Tryz.prog 160 _ (Extern.ReflectliteType.method fun t => do Rtype.noPackHeld "Comparable" t; pure (.bool (← typeInfo t).comparable)) Tryz.func160 (by kernel_rfl) (by kernel_rfl) (by kernel_rfl) (by kernel_rfl)
  have tO := isTypeOf_F
  have cT := isComp_F
  have mR := mComp
  have hn := eq_nil e
  go_enter Tryz.func23, Tryz.ntmps23
  go_wp2_with (go_at_call 39; refine (HC.out ()).mono ?_; rintro ev w2 ⟨rfl, hb⟩; have HB := Lib.hid hb; clear hb)
  go_ret
  exact ⟨rfl, HB.out⟩
/-- errors.Is at an error of errors.New's make. -/
theorem Is_oth (a : Nat) (s : ByteArray) (e : Er) (w : World) (hl : e.lies w) (ha : Blk w a #[.string s] 77) : Calls Tryz.prog 23 #[.iface e.ty e.cont, .iface 75 (.pointer (some ⟨a, 0, none⟩))] w fun ev w' => ev = .returned (.bool (has (qO a) e)) ∧ Below w.heap.size w w' := by
  have HC := Lib.hid fun _ : Unit => is_any (.iface 75 (.pointer (some ⟨a, 0, none⟩))) (qO a) w (fun e w' hb h => heq_O a w s ha e w' hb h) _ e (Nat.le_refl _) w (Below.refl _ _) hl
  clear hl ha
  have h38 := @run_callFunc_extern Tryz.prog 38 _ Extern.ReflectliteType.typeOf Tryz.func38 (by kernel_rfl) (by kernel_rfl) (by kernel_rfl) (by kernel_rfl)
  have h160 := @run_callFunc_extern Tryz.prog 160 _ (Extern.ReflectliteType.method fun t => do Rtype.noPackHeld "Comparable" t; pure (.bool (← typeInfo t).comparable)) Tryz.func160 (by kernel_rfl) (by kernel_rfl) (by kernel_rfl) (by kernel_rfl)
  have tO := isTypeOf_E
  have cT := isComp_E
  have mR := mComp
  have hn := eq_nil e
  go_enter Tryz.func23, Tryz.ntmps23
  go_wp2_with (go_at_call 39; refine (HC.out ()).mono ?_; rintro ev w2 ⟨rfl, hb⟩; have HB := Lib.hid hb; clear hb)
  go_ret
  exact ⟨rfl, HB.out⟩
end Go.Proofs.YtidkpdabidlnnaaGreatDoor


/-
  What errors.As asks of the library's reflection, at a sort and at a fault.
-/

namespace Go.Proofs.YtidkpdabidlnnaaGreatDoor

open Go.RowKit Go.Extern.Stop Go.Stop Go.Extern

set_option maxRecDepth 100000

theorem refl_method (z : Sem Value) (f : TypeId → Addr → Nat → Nat → Sem Value) (v : Value) :
    ReflectliteValue.method z f #[v] = (do match ← ReflectliteValue.parts v with | none => z | some (t, a, fl) => f t a fl (fl % 32)) := rfl
theorem mKind (h : Value) (w : World) : (Go.method 326 113 (.agg #[h]) "Kind").run Tryz.prog w = .ok (143, h) w := by kernel_rfl
theorem mElem (h : Value) (w : World) : (Go.method 326 113 (.agg #[h]) "Elem").run Tryz.prog w = .ok (161, .agg #[h]) w := by kernel_rfl
theorem mImpl (h : Value) (w : World) : (Go.method 326 113 (.agg #[h]) "Implements").run Tryz.prog w = .ok (162, .agg #[h]) w := by kernel_rfl
theorem mAssn (h : Value) (w : World) : (Go.method 326 113 (.agg #[h]) "AssignableTo").run Tryz.prog w = .ok (159, .agg #[h]) w := by kernel_rfl
theorem refl_typeOf (e : Er) (w : World) : (ReflectliteType.typeOf #[.iface e.ty e.cont]).run Tryz.prog w = .ok (.iface 113 (.agg #[.pointer (some ⟨9, e.ty, none⟩)])) w := by
  cases e <;> kernel_rfl
theorem valueOfP_S (t : Addr) (w : World) : (ReflectliteValue.unpack (.iface 60 (.pointer (some t)))).run Tryz.prog w
    = .ok (.agg #[.pointer (some ⟨9, 60, none⟩), .pointer (some ⟨w.heap.size, 0, none⟩), .int .u64 150]) (w.alloc (.cells #[.pointer (some t)] 60)) := by kernel_rfl
theorem typeP_S (a : Addr) (w : World) : (ReflectliteValue.methodAny (ReflectliteValue.valueError "reflectlite.Value.Type" 0) (fun t _ _ _ => ReflectliteType.toType t) #[.agg #[.pointer (some ⟨9, 60, none⟩), .pointer (some a), .int .u64 150]]).run Tryz.prog w
    = .ok (.iface 113 (.agg #[.pointer (some ⟨9, 60, none⟩)])) w := by kernel_rfl
theorem kindP_S (w : World) : ((ReflectliteType.abiMethod fun t => do Rtype.noPack "a method of abi.Type" t; (fun a : Nat => Value.int IntKind.u8 (a : Int)) <$> Rtype.kind t) #[.pointer (some ⟨9, 60, none⟩)]).run Tryz.prog w = .ok (.int .u8 22) w := by kernel_rfl
theorem kindP2_S (w : World) : ((ReflectliteType.abiMethod fun t => (fun a : Nat => Value.int IntKind.u8 (a : Int)) <$> Rtype.kind t) #[.pointer (some ⟨9, 60, none⟩)]).run Tryz.prog w = .ok (.int .u8 22) w := by kernel_rfl
theorem kindT_S (w : World) : ((ReflectliteType.abiMethod fun t => (fun a : Nat => Value.int IntKind.u8 (a : Int)) <$> Rtype.kind t) #[.pointer (some ⟨9, 41, none⟩)]).run Tryz.prog w = .ok (.int .u8 2) w := by kernel_rfl
theorem partsP_S (a : Addr) (w : World) : (ReflectliteValue.parts (.agg #[.pointer (some ⟨9, 60, none⟩), .pointer (some a), .int .u64 150])).run Tryz.prog w = .ok (some (60, a, 150)) w := by kernel_rfl
theorem isNilP_S (a p : Addr) (W : World) (ha : W.cell? a = some (.pointer (some p))) :
    (ReflectliteValue.method (ReflectliteValue.valueError "reflectlite.Value.IsNil" 0) ReflectliteValue.isNil #[.agg #[.pointer (some ⟨9, 60, none⟩), .pointer (some a), .int .u64 150]]).run Tryz.prog W = .ok (.bool false) W := by
  rw [refl_method]
  simp only [Sem.run_bind, partsP_S, Result.andThen]
  simp [ReflectliteValue.isNil, loadVar, isAgg, underlying, Tryz.underlying60, ha, Result.andThen]
theorem elemP_S (w : World) : (ReflectliteType.method ReflectliteType.elem #[.agg #[.pointer (some ⟨9, 60, none⟩)]]).run Tryz.prog w = .ok (.iface 113 (.agg #[.pointer (some ⟨9, 41, none⟩)])) w := by kernel_rfl
theorem implT_S (w : World) : (ReflectliteType.relation "Implements" ReflectliteType.implements_ #[.agg #[.pointer (some ⟨9, 41, none⟩)], .iface 113 (.agg #[.pointer (some ⟨9, 27, none⟩)])]).run Tryz.prog w = .ok (.bool true) w := by kernel_rfl
def isS : Er → Bool
  | .sort _ => true
  | _ => false
theorem assn_S (e : Er) (w : World) : (ReflectliteType.relation "AssignableTo" ReflectliteType.assignableTo #[.agg #[.pointer (some ⟨9, e.ty, none⟩)], .iface 113 (.agg #[.pointer (some ⟨9, 41, none⟩)])]).run Tryz.prog w = .ok (.bool (isS e)) w := by
  cases e <;> kernel_rfl
theorem valueOfT_S (k : Int) (w : World) : (ReflectliteValue.unpack (.iface 41 (.int .i64 k))).run Tryz.prog w
    = .ok (.agg #[.pointer (some ⟨9, 41, none⟩), .pointer (some ⟨w.heap.size, 0, none⟩), .int .u64 130]) (w.alloc (.cells #[.int .i64 k] 41)) := by kernel_rfl
theorem elemOfP_S (w : World) : (Rtype.elem? 60).run Tryz.prog w = .ok (some 41) w := by kernel_rfl
theorem mkT_S (p : Addr) (w : World) : (ReflectliteValue.mk 41 p ReflectliteValue.flagAddr).run Tryz.prog w = .ok (.agg #[.pointer (some ⟨9, 41, none⟩), .pointer (some p), .int .u64 386]) w := by kernel_rfl
theorem elemV_S (a p : Addr) (W : World) (ha : W.cell? a = some (.pointer (some p))) :
    (ReflectliteValue.method (ReflectliteValue.valueError "reflectlite.Value.Elem" 0) ReflectliteValue.elem #[.agg #[.pointer (some ⟨9, 60, none⟩), .pointer (some a), .int .u64 150]]).run Tryz.prog W
      = .ok (.agg #[.pointer (some ⟨9, 41, none⟩), .pointer (some p), .int .u64 386]) W := by
  rw [refl_method]
  simp only [Sem.run_bind, partsP_S, Result.andThen]
  simp [ReflectliteValue.elem, loadVar, isAgg, underlying, Tryz.underlying60, ha, Result.andThen, elemOfP_S, mkT_S]
theorem partsE_S (a : Addr) (w : World) : (ReflectliteValue.parts (.agg #[.pointer (some ⟨9, 41, none⟩), .pointer (some a), .int .u64 386])).run Tryz.prog w = .ok (some (41, a, 386)) w := by kernel_rfl
theorem partsT_S (a : Addr) (w : World) : (ReflectliteValue.parts (.agg #[.pointer (some ⟨9, 41, none⟩), .pointer (some a), .int .u64 130])).run Tryz.prog w = .ok (some (41, a, 130)) w := by kernel_rfl
theorem direct_S (w : World) : (Rtype.directlyAssignable 41 41).run Tryz.prog w = .ok true w := by kernel_rfl
theorem valueOfP_F (t : Addr) (w : World) : (ReflectliteValue.unpack (.iface 66 (.pointer (some t)))).run Tryz.prog w
    = .ok (.agg #[.pointer (some ⟨9, 66, none⟩), .pointer (some ⟨w.heap.size, 0, none⟩), .int .u64 150]) (w.alloc (.cells #[.pointer (some t)] 66)) := by kernel_rfl
theorem typeP_F (a : Addr) (w : World) : (ReflectliteValue.methodAny (ReflectliteValue.valueError "reflectlite.Value.Type" 0) (fun t _ _ _ => ReflectliteType.toType t) #[.agg #[.pointer (some ⟨9, 66, none⟩), .pointer (some a), .int .u64 150]]).run Tryz.prog w
    = .ok (.iface 113 (.agg #[.pointer (some ⟨9, 66, none⟩)])) w := by kernel_rfl
theorem kindP_F (w : World) : ((ReflectliteType.abiMethod fun t => do Rtype.noPack "a method of abi.Type" t; (fun a : Nat => Value.int IntKind.u8 (a : Int)) <$> Rtype.kind t) #[.pointer (some ⟨9, 66, none⟩)]).run Tryz.prog w = .ok (.int .u8 22) w := by kernel_rfl
theorem kindP2_F (w : World) : ((ReflectliteType.abiMethod fun t => (fun a : Nat => Value.int IntKind.u8 (a : Int)) <$> Rtype.kind t) #[.pointer (some ⟨9, 66, none⟩)]).run Tryz.prog w = .ok (.int .u8 22) w := by kernel_rfl
theorem kindT_F (w : World) : ((ReflectliteType.abiMethod fun t => (fun a : Nat => Value.int IntKind.u8 (a : Int)) <$> Rtype.kind t) #[.pointer (some ⟨9, 65, none⟩)]).run Tryz.prog w = .ok (.int .u8 25) w := by kernel_rfl
theorem partsP_F (a : Addr) (w : World) : (ReflectliteValue.parts (.agg #[.pointer (some ⟨9, 66, none⟩), .pointer (some a), .int .u64 150])).run Tryz.prog w = .ok (some (66, a, 150)) w := by kernel_rfl
theorem isNilP_F (a p : Addr) (W : World) (ha : W.cell? a = some (.pointer (some p))) :
    (ReflectliteValue.method (ReflectliteValue.valueError "reflectlite.Value.IsNil" 0) ReflectliteValue.isNil #[.agg #[.pointer (some ⟨9, 66, none⟩), .pointer (some a), .int .u64 150]]).run Tryz.prog W = .ok (.bool false) W := by
  rw [refl_method]
  simp only [Sem.run_bind, partsP_F, Result.andThen]
  simp [ReflectliteValue.isNil, loadVar, isAgg, underlying, Tryz.underlying66, ha, Result.andThen]
theorem elemP_F (w : World) : (ReflectliteType.method ReflectliteType.elem #[.agg #[.pointer (some ⟨9, 66, none⟩)]]).run Tryz.prog w = .ok (.iface 113 (.agg #[.pointer (some ⟨9, 65, none⟩)])) w := by kernel_rfl
theorem implT_F (w : World) : (ReflectliteType.relation "Implements" ReflectliteType.implements_ #[.agg #[.pointer (some ⟨9, 65, none⟩)], .iface 113 (.agg #[.pointer (some ⟨9, 27, none⟩)])]).run Tryz.prog w = .ok (.bool true) w := by kernel_rfl
def isF : Er → Bool
  | .flt _ _ => true
  | _ => false
theorem assn_F (e : Er) (w : World) : (ReflectliteType.relation "AssignableTo" ReflectliteType.assignableTo #[.agg #[.pointer (some ⟨9, e.ty, none⟩)], .iface 113 (.agg #[.pointer (some ⟨9, 65, none⟩)])]).run Tryz.prog w = .ok (.bool (isF e)) w := by
  cases e <;> kernel_rfl
theorem valueOfT_F (k o : Int) (w : World) : (ReflectliteValue.unpack (.iface 65 (.agg #[.int .i64 k, .int .i64 o]))).run Tryz.prog w
    = .ok (.agg #[.pointer (some ⟨9, 65, none⟩), .pointer (some ⟨w.heap.size, 0, none⟩), .int .u64 153]) (w.alloc (.cells #[.int .i64 k, .int .i64 o] 65)) := by kernel_rfl
theorem elemOfP_F (w : World) : (Rtype.elem? 66).run Tryz.prog w = .ok (some 65) w := by kernel_rfl
theorem mkT_F (p : Addr) (w : World) : (ReflectliteValue.mk 65 p ReflectliteValue.flagAddr).run Tryz.prog w = .ok (.agg #[.pointer (some ⟨9, 65, none⟩), .pointer (some p), .int .u64 409]) w := by kernel_rfl
theorem elemV_F (a p : Addr) (W : World) (ha : W.cell? a = some (.pointer (some p))) :
    (ReflectliteValue.method (ReflectliteValue.valueError "reflectlite.Value.Elem" 0) ReflectliteValue.elem #[.agg #[.pointer (some ⟨9, 66, none⟩), .pointer (some a), .int .u64 150]]).run Tryz.prog W
      = .ok (.agg #[.pointer (some ⟨9, 65, none⟩), .pointer (some p), .int .u64 409]) W := by
  rw [refl_method]
  simp only [Sem.run_bind, partsP_F, Result.andThen]
  simp [ReflectliteValue.elem, loadVar, isAgg, underlying, Tryz.underlying66, ha, Result.andThen, elemOfP_F, mkT_F]
theorem partsE_F (a : Addr) (w : World) : (ReflectliteValue.parts (.agg #[.pointer (some ⟨9, 65, none⟩), .pointer (some a), .int .u64 409])).run Tryz.prog w = .ok (some (65, a, 409)) w := by kernel_rfl
theorem partsT_F (a : Addr) (w : World) : (ReflectliteValue.parts (.agg #[.pointer (some ⟨9, 65, none⟩), .pointer (some a), .int .u64 153])).run Tryz.prog w = .ok (some (65, a, 153)) w := by kernel_rfl
theorem direct_F (w : World) : (Rtype.directlyAssignable 65 65).run Tryz.prog w = .ok true w := by kernel_rfl
end Go.Proofs.YtidkpdabidlnnaaGreatDoor


/-
  What errors.As finds is stored where it is told to.
-/


namespace Go.Proofs.YtidkpdabidlnnaaGreatDoor

open Go.RowKit Go.Extern.Stop Go.Stop Go.Extern

set_option maxRecDepth 100000

theorem refl_set (v x : Value) : ReflectliteValue.set #[v, x] = (do
    let (some (dst, a, fl), some (src, b, _)) := (← ReflectliteValue.parts v, ← ReflectliteValue.parts x)
      | unsupported (.noEntry "extern/(internal/reflectlite.Value).Set.zeroValue")
    if fl / ReflectliteValue.flagAddr % 2 == 0 then unsupported (.noEntry "extern/(internal/reflectlite.Value).Set.unaddressable")
    let val ← loadVar src b
    if ← Rtype.directlyAssignable dst src then storeVar dst a val
    else if ← Rtype.implements dst src then
      if (← Rtype.kind src) == 20 then
        match val with
        | .nilIface => unsupported (.noEntry "extern/reflectlite: a nil value of one interface type handed on as a value of another")
        | _ => storeVar dst a val
      else storeVar dst a (.iface src val)
    else panicString ("reflectlite.Set: value of type " ++ (← Rtype.spelt src) ++ " is not assignable to type " ++ (← Rtype.spelt dst))
    pure (.tuple #[])) := rfl
theorem set_S (ta b : Addr) (k : Int) (old : Value) (W : World) (hb : W.cell? b = some (.int .i64 k)) (ht : W.cell? ta = some old) (hf : W.frozen? ta = false) :
    (ReflectliteValue.set #[.agg #[.pointer (some ⟨9, 41, none⟩), .pointer (some ta), .int .u64 386], .agg #[.pointer (some ⟨9, 41, none⟩), .pointer (some b), .int .u64 130]]).run Tryz.prog W
      = .ok (.tuple #[]) (W.setCell ta (.int .i64 k)) := by
  rw [refl_set]
  simp only [Sem.run_bind, partsE_S, partsT_S, Result.andThen]
  simp [ReflectliteValue.flagAddr, loadVar, isAgg, underlying, Tryz.underlying41, hb, Result.andThen, direct_S, storeVar, Value.cells, storeCells, Addr.add]
  rw [run_store Tryz.prog W ta _ _ (by rfl)]
  simp [ht, hf]
theorem size_F (w : World) : (sizeOf 65).run Tryz.prog w = .ok 2 w := by kernel_rfl
theorem set_F (t b : Nat) (k o : Int) (x y : Value) (W : World) (hb : Blk W b #[.int .i64 k, .int .i64 o] 65) (ht : Blk W t #[x, y] 65) :
    (ReflectliteValue.set #[.agg #[.pointer (some ⟨9, 65, none⟩), .pointer (some ⟨t, 0, none⟩), .int .u64 409], .agg #[.pointer (some ⟨9, 65, none⟩), .pointer (some ⟨b, 0, none⟩), .int .u64 153]]).run Tryz.prog W
      = .ok (.tuple #[]) ((W.setCell ⟨t, 0, none⟩ (.int .i64 k)).setCell ⟨t, 1, none⟩ (.int .i64 o)) := by
  rw [refl_set]
  simp only [Sem.run_bind, partsE_F, partsT_F, Result.andThen]
  have hlc : (loadCells ⟨b, 0, none⟩ 2).run Tryz.prog W = .ok #[.int .i64 k, .int .i64 o] W := run_loadCells_list (P := Tryz.prog) W ⟨b, 0, none⟩ [.int .i64 k, .int .i64 o] (fun j v hj => by
    have hadd : (⟨b, 0, none⟩ : Addr).add j = ⟨b, 0 + j, none⟩ := by unfold Addr.add; split <;> simp_all
    rw [hadd, Nat.zero_add]
    exact (hb.cell j).trans (by rw [← Array.getElem?_toList]; exact hj))
  have hsc : (storeCells ⟨t, 0, none⟩ [.int .i64 k, .int .i64 o]).run Tryz.prog W = .ok () ((W.setCell ⟨t, 0, none⟩ (.int .i64 k)).setCell ⟨t, 1, none⟩ (.int .i64 o)) :=
    run_storeCells_cells (P := Tryz.prog) t 0 [.int .i64 k, .int .i64 o] 0 W
      (fun j hj => by
        rw [ht.cell]
        match j, hj with
        | 0, _ => rfl
        | 1, _ => rfl
        | j + 2, hj => simp at hj; omega)
      (fun j _ => ht.free _) (fun v hv => by
        rcases List.mem_cons.1 hv with rfl | hv
        · rfl
        · rw [List.mem_singleton] at hv; subst hv; rfl)
  simp [ReflectliteValue.flagAddr, loadVar, isAgg, underlying, Tryz.underlying65, Result.andThen, direct_F, storeVar, Value.cells, hlc, hsc]
end Go.Proofs.YtidkpdabidlnnaaGreatDoor


/-
  errors.As through whatever errors there are, at a sort and at a fault.
-/

namespace Go.Proofs.YtidkpdabidlnnaaGreatDoor

open Go.RowKit Go.Extern.Stop Go.Stop Go.Extern

set_option maxRecDepth 100000

/-- The first sort's kind. -/
def fstS : Er → Option Int
  | .sort k => some k
  | .flt k _ => some k
  | .oth _ => none
  | .note _ _ e => fstS e
  | .arnd e => fstS e
  | .join _ _ _ e => fstS e
/-- The first fault. -/
def fstF : Er → Option (Int × Int)
  | .sort _ => none
  | .flt k o => some (k, o)
  | .oth _ => none
  | .note _ _ e => fstF e
  | .arnd e => fstF e
  | .join _ _ _ e => fstF e
theorem isS_of {e : Er} (h : isS e = true) : ∃ k, e = .sort k := by cases e <;> first | exact ⟨_, rfl⟩ | cases h
theorem isF_of {e : Er} (h : isF e = true) : ∃ k o, e = .flt k o := by cases e <;> first | exact ⟨_, _, rfl⟩ | cases h
theorem fstS_un {e f : Er} (_h : isS e = false) (hu : e.un = some f) : fstS e = fstS f := by
  cases e <;> simp only [Er.un, Option.some.injEq, reduceCtorEq] at hu <;> subst hu <;> rfl
theorem fstF_un {e f : Er} (h : isF e = false) (hu : e.un = some f) : fstF e = fstF f := by
  cases e <;> simp only [Er.un, Option.some.injEq, reduceCtorEq] at hu <;> subst hu <;> first | rfl | cases h
theorem fstS_leaf {e : Er} (h : isS e = false) (hu : e.un = none) (hj : e.isJoin = false) : fstS e = none := by
  cases e <;> first | rfl | cases h; done | cases hu; done | cases hj
theorem fstF_leaf {e : Er} (_h : isF e = false) (hu : e.un = none) (hj : e.isJoin = false) : fstF e = none := by
  cases e <;> first | rfl | cases hu; done | cases hj
def PostS (e : Er) (t : Nat) (w : World) (ev : Ending) (w' : World) : Prop :=
  (∃ k, fstS e = some k ∧ ev = .returned (.bool true) ∧ Below t w w' ∧ Blk w' t #[.int .i64 k] 41) ∨ (fstS e = none ∧ ev = .returned (.bool false) ∧ Below w.heap.size w w')
def PostF (e : Er) (t : Nat) (w : World) (ev : Ending) (w' : World) : Prop :=
  (∃ k, fstF e = some k ∧ ev = .returned (.bool true) ∧ Below t w w' ∧ Blk w' t #[.int .i64 k.1, .int .i64 k.2] 65) ∨ (fstF e = none ∧ ev = .returned (.bool false) ∧ Below w.heap.size w w')
theorem PostS_some {e : Er} {t : Nat} {w w' : World} {ev : Ending} {k : Int} (hk : fstS e = some k) (h : PostS e t w ev w') : ev = .returned (.bool true) ∧ Below t w w' ∧ Blk w' t #[.int .i64 k] 41 := by
  rcases h with ⟨k', h1, h⟩ | ⟨h1, _⟩
  · obtain rfl := Option.some.inj (h1.symm.trans hk)
    exact h
  · rw [hk] at h1; cases h1
theorem PostS_none {e : Er} {t : Nat} {w w' : World} {ev : Ending} (hk : fstS e = none) (h : PostS e t w ev w') : ev = .returned (.bool false) ∧ Below w.heap.size w w' := by
  rcases h with ⟨k', h1, h⟩ | ⟨_, h⟩
  · rw [hk] at h1; cases h1
  · exact h
theorem PostF_some {e : Er} {t : Nat} {w w' : World} {ev : Ending} {k : Int × Int} (hk : fstF e = some k) (h : PostF e t w ev w') : ev = .returned (.bool true) ∧ Below t w w' ∧ Blk w' t #[.int .i64 k.1, .int .i64 k.2] 65 := by
  rcases h with ⟨k', h1, h⟩ | ⟨h1, _⟩
  · obtain rfl := Option.some.inj (h1.symm.trans hk)
    exact h
  · rw [hk] at h1; cases h1
theorem PostF_none {e : Er} {t : Nat} {w w' : World} {ev : Ending} (hk : fstF e = none) (h : PostF e t w ev w') : ev = .returned (.bool false) ∧ Below w.heap.size w w' := by
  rcases h with ⟨k', h1, h⟩ | ⟨_, h⟩
  · rw [hk] at h1; cases h1
  · exact h
set_option maxHeartbeats 4000000 in
theorem as_S : ∀ (n : Nat) (e : Er), e.size ≤ n → ∀ (t vb : Nat) (x : Value) (w : World), e.lies w → Blk w t #[x] 41 → Blk w vb #[.pointer (some ⟨t, 0, none⟩)] 60 →
      Calls Tryz.prog 43 #[.iface e.ty e.cont, .iface 60 (.pointer (some ⟨t, 0, none⟩)), .agg #[.pointer (some ⟨9, 60, none⟩), .pointer (some ⟨vb, 0, none⟩), .int .u64 150], .iface 113 (.agg #[.pointer (some ⟨9, 41, none⟩)])] w
        (PostS e t w) := by
  intro n
  induction n with
  | zero => intro e h; cases e <;> simp [Er.size] at h
  | succ n ih =>
    intro e hsz t vb x w hl ht hv
    have IH := Lib.hid ih; have HS := Lib.hid hsz; have HL := Lib.hid hl; have HT := Lib.hid ht; have HV := Lib.hid hv
    clear ih hsz hl ht hv
    have h38 := @run_callFunc_extern Tryz.prog 38 _ ReflectliteType.typeOf Tryz.func38 (by kernel_rfl) (by kernel_rfl) (by kernel_rfl) (by kernel_rfl)
    have h159 := @run_callFunc_extern Tryz.prog 159 _ (ReflectliteType.relation "AssignableTo" ReflectliteType.assignableTo) Tryz.func159 (by kernel_rfl) (by kernel_rfl) (by kernel_rfl) (by kernel_rfl)
    have mA := mAssn
    go_enter Tryz.func43, Tryz.ntmps43
    go_wp2
    go_loopw [0] (fun v wr => ∃ f : Er, v = .iface f.ty f.cont ∧ f.lies wr ∧ f.size ≤ n + 1 ∧ fstS e = fstS f ∧ Below w.heap.size w wr ∧ Blk wr w.heap.size #[.pointer (some ⟨9, 60, none⟩), .pointer (some ⟨vb, 0, none⟩), .int .u64 150] 97) (fun v wr => szv wr v)
    case atStart => exact ⟨e, rfl, Er.lies.keep ((Below.refl _ w).alloc (Nat.le_refl _) _) HL.out, HS.out, rfl, (Below.refl _ w).alloc (Nat.le_refl _) _, Blk.new rfl⟩
    case round =>
      obtain ⟨f, rfl, hf, hfs, hh, hb, hs⟩ := hrel
      have tO := refl_typeOf f
      have aT := assn_S f
      cases hq : isS f with
      | true =>
        rw [hq] at aT
        obtain ⟨k, rfl⟩ := isS_of hq
        have hT := Blk.keep hb HT.out
        have hV := Blk.keep hb HV.out
        have h49 := @run_callFunc_extern Tryz.prog 49 _ (ReflectliteValue.method (ReflectliteValue.valueError "reflectlite.Value.Elem" 0) ReflectliteValue.elem) Tryz.func49 (by kernel_rfl) (by kernel_rfl) (by kernel_rfl) (by kernel_rfl)
        have h40 := @run_callFunc_extern Tryz.prog 40 _ (fun args => ReflectliteValue.unpack (args.getD 0 (.tuple #[]))) Tryz.func40 (by kernel_rfl) (by kernel_rfl) (by kernel_rfl) (by kernel_rfl)
        have h50 := @run_callFunc_extern Tryz.prog 50 _ ReflectliteValue.set Tryz.func50 (by kernel_rfl) (by kernel_rfl) (by kernel_rfl) (by kernel_rfl)
        have s0 := hs.cell 0
        have s1 := hs.cell 1
        have s2 := hs.cell 2
        have el := elemV_S ⟨vb, 0, none⟩ ⟨t, 0, none⟩ wr hV.one
        have vT : (ReflectliteValue.unpack (.iface (Er.sort k).ty (Er.sort k).cont)).run Tryz.prog wr = .ok (.agg #[.pointer (some ⟨9, 41, none⟩), .pointer (some ⟨wr.heap.size, 0, none⟩), .int .u64 130]) (wr.alloc (.cells #[.int .i64 k] 41)) := valueOfT_S k wr
        have hTa : Blk (wr.alloc (.cells #[.int .i64 k] 41)) t #[x] 41 := hT.old _
        have hNew : Blk (wr.alloc (.cells #[.int .i64 k] 41)) wr.heap.size #[.int .i64 k] 41 := Blk.new rfl
        have st := set_S ⟨t, 0, none⟩ ⟨wr.heap.size, 0, none⟩ k x (wr.alloc (.cells #[.int .i64 k] 41)) hNew.one hTa.one (hTa.free 0)
        have hr : fstS e = some k := hh
        have HE := Lib.hid (((hb.mono (Nat.le_of_lt HT.out.lt)).alloc (Nat.le_of_lt hT.lt) (.cells #[.int .i64 k] 41)).setCell (p := ⟨t, 0, none⟩) (Nat.le_refl t) (.int .i64 k))
        have HTN := Lib.hid (hTa.put (i := 0) (.int .i64 k))
        have HR := Lib.hid hr
        clear hT hV hTa hNew hr hh hf hfs hb hq hs
        go_wp2
        go_ret
        exact .inl ⟨k, HR.out, rfl, HE.out, HTN.out⟩
      | false =>
        rw [hq] at aT
        have ha := asAs_any f
        have HF := Lib.hid hf; have HFS := Lib.hid hfs; have HB := Lib.hid hb; have HSV := Lib.hid hs
        clear hs
        cases hu : f.un with
        | some g =>
          have hh' : fstS e = fstS g := by rw [hh, fstS_un hq hu]
          have u1 := asUn_some hu
          have m1 := mUn_some hu
          have hn := eq_nil g
          have HU := Lib.hid hu; have HH := Lib.hid hh'
          clear hh hf hfs hb hu hh' hq
          have hc := fun w => unf_calls HU.out w
          rcases unf_cases HU.out with h3 | h3 | h3
          · rw [h3] at m1 hc
            have HC := Lib.hid hc
            clear hc
            go_wp2_with (go_at_call 149; refine (HC.out _ HF.out).mono ?_; rintro ev w2 ⟨rfl, hb2⟩; have HB2 := Lib.hid hb2; clear hb2)
            go_roundw
            case rel => exact ⟨g, rfl, (by have := Er.un_lies HF.out; rw [HU.out] at this; exact Er.lies.keep HB2.out this), by have := Er.un_size HU.out; have := HFS.out; omega, HH.out, keepW HB.out HB2.out, Blk.keep HB2.out HSV.out⟩
            case measure =>
              have h1 := szv_of HF.out
              have h2 := szv_of (e := g) (w := w2) (by have := Er.un_lies HF.out; rw [HU.out] at this; exact Er.lies.keep HB2.out this)
              rw [h1, h2]
              exact Er.un_size HU.out
          · rw [h3] at m1 hc
            have HC := Lib.hid hc
            clear hc
            go_wp2_with (go_at_call 152; refine (HC.out _ HF.out).mono ?_; rintro ev w2 ⟨rfl, hb2⟩; have HB2 := Lib.hid hb2; clear hb2)
            go_roundw
            case rel => exact ⟨g, rfl, (by have := Er.un_lies HF.out; rw [HU.out] at this; exact Er.lies.keep HB2.out this), by have := Er.un_size HU.out; have := HFS.out; omega, HH.out, keepW HB.out HB2.out, Blk.keep HB2.out HSV.out⟩
            case measure =>
              have h1 := szv_of HF.out
              have h2 := szv_of (e := g) (w := w2) (by have := Er.un_lies HF.out; rw [HU.out] at this; exact Er.lies.keep HB2.out this)
              rw [h1, h2]
              exact Er.un_size HU.out
          · rw [h3] at m1 hc
            have HC := Lib.hid hc
            clear hc
            go_wp2_with (go_at_call 147; refine (HC.out _ HF.out).mono ?_; rintro ev w2 ⟨rfl, hb2⟩; have HB2 := Lib.hid hb2; clear hb2)
            go_roundw
            case rel => exact ⟨g, rfl, (by have := Er.un_lies HF.out; rw [HU.out] at this; exact Er.lies.keep HB2.out this), by have := Er.un_size HU.out; have := HFS.out; omega, HH.out, keepW HB.out HB2.out, Blk.keep HB2.out HSV.out⟩
            case measure =>
              have h1 := szv_of HF.out
              have h2 := szv_of (e := g) (w := w2) (by have := Er.un_lies HF.out; rw [HU.out] at this; exact Er.lies.keep HB2.out this)
              rw [h1, h2]
              exact Er.un_size HU.out
        | none =>
          have u1 := asUn_none hu
          have u2 := asUs_any f
          cases hj : f.isJoin with
          | false =>
            have hr : fstS e = none := by rw [hh, fstS_leaf hq hu hj]
            rw [hj] at u2
            simp only [Bool.false_eq_true, if_false] at u2
            clear hh hf hfs hb hu hq hj
            go_wp2
            go_ret
            exact .inr ⟨hr, rfl, HB.out⟩
          | true =>
            obtain ⟨b, r, a, g, rfl⟩ := has_join hj
            have hr : fstS e = fstS g := hh
            rw [hj] at u2
            simp only [if_true] at u2
            have m1 := mUs_join b r a g
            have hc := fun w => unfJ_calls (b := b) (r := r) (a := a) (e := g) w
            obtain ⟨c0, c1⟩ := join_cells hf
            have hso : (Er.oth a).size ≤ n := by have h1 := hfs; simp only [Er.size] at h1 ⊢; cases g <;> simp only [Er.size] at h1 <;> omega
            have hsg : g.size ≤ n := by have h1 := hfs; simp only [Er.size] at h1; omega
            have hlo : (Er.oth a).lies wr := hf.2.2.1
            have hlg : g.lies wr := hf.2.2.2
            have hcell : ∀ w' : World, Below wr.heap.size wr w' → w'.cell? ⟨r, 1, none⟩ = some (.iface g.ty g.cont) := fun w' h => (join_cells (hf.keep h)).2
            have hT := Blk.keep hb HT.out
            have hV := Blk.keep hb HV.out
            have hc0 := IH.out (.oth a) hso t vb _  wr hlo hT hV
            have s0 := HSV.out.cell 0
            have s1 := HSV.out.cell 1
            have s2 := HSV.out.cell 2
            have hn0 := eq_nil (.oth a)
            have hn1 := eq_nil g
            have HCELL := Lib.hid hcell; have HR := Lib.hid hr; have HC := Lib.hid hc; have HC0 := Lib.hid hc0; have HSG := Lib.hid hsg; have HLG := Lib.hid hlg; have HTW := Lib.hid hT; have HVW := Lib.hid hV
            clear hh hf hfs hb hu hq hj hr hc hc0 hso hsg hlo hlg hT hV hcell
            go_wp2_with (go_at_call 154; refine (HC.out _ HF.out).mono ?_; rintro ev w2 ⟨rfl, rfl⟩)
            refine wp_loop_rounds 3 ?_
            rw [rounds_succ]
            go_wp2_with (go_at_call 43; refine HC0.out.mono ?_; rintro ev w3 (⟨k, hk, _⟩ | ⟨_, rfl, hb3⟩); (cases hk); have HB3 := Lib.hid hb3; have c13 := HCELL.out _ hb3; have s03 := (Blk.keep hb3 HSV.out).cell 0; have s13 := (Blk.keep hb3 HSV.out).cell 1; have s23 := (Blk.keep hb3 HSV.out).cell 2; clear hb3)
            have hc1 := IH.out g HSG.out t vb _  w3 (Er.lies.keep HB3.out HLG.out) (Blk.keep HB3.out HTW.out) (Blk.keep HB3.out HVW.out)
            have HC1 := Lib.hid hc1
            clear hc1
            rw [rounds_succ]
            cases hqg : fstS g with
            | some k =>
              have HK := Lib.hid hqg
              clear hqg
              go_wp2_with (go_at_call 43; refine HC1.out.mono ?_; rintro ev w4 h4; obtain ⟨rfl, hb4, ht4⟩ := PostS_some HK.out h4; have HB4 := Lib.hid hb4; have HT4 := Lib.hid ht4; clear hb4 ht4 h4)
              go_ret
              exact .inl ⟨k, HR.out.trans HK.out, rfl, ((HB.out.mono (Nat.le_of_lt HT.out.lt)).trans (HB3.out.mono (Nat.le_of_lt HTW.out.lt))).trans HB4.out, HT4.out⟩
            | none =>
              have HK := Lib.hid hqg
              clear hqg
              go_wp2_with (go_at_call 43; refine HC1.out.mono ?_; rintro ev w4 h4; obtain ⟨rfl, hb4⟩ := PostS_none HK.out h4; have HB4 := Lib.hid hb4; clear hb4 h4)
              rw [rounds_succ]
              go_wp2
              go_ret
              exact .inr ⟨by rw [HR.out]; exact HK.out, rfl, keepW (keepW HB.out HB3.out) HB4.out⟩
set_option maxHeartbeats 4000000 in
theorem as_F : ∀ (n : Nat) (e : Er), e.size ≤ n → ∀ (t vb : Nat) (x y : Value) (w : World), e.lies w → Blk w t #[x, y] 65 → Blk w vb #[.pointer (some ⟨t, 0, none⟩)] 66 →
      Calls Tryz.prog 43 #[.iface e.ty e.cont, .iface 66 (.pointer (some ⟨t, 0, none⟩)), .agg #[.pointer (some ⟨9, 66, none⟩), .pointer (some ⟨vb, 0, none⟩), .int .u64 150], .iface 113 (.agg #[.pointer (some ⟨9, 65, none⟩)])] w
        (PostF e t w) := by
  intro n
  induction n with
  | zero => intro e h; cases e <;> simp [Er.size] at h
  | succ n ih =>
    intro e hsz t vb x y w hl ht hv
    have IH := Lib.hid ih; have HS := Lib.hid hsz; have HL := Lib.hid hl; have HT := Lib.hid ht; have HV := Lib.hid hv
    clear ih hsz hl ht hv
    have h38 := @run_callFunc_extern Tryz.prog 38 _ ReflectliteType.typeOf Tryz.func38 (by kernel_rfl) (by kernel_rfl) (by kernel_rfl) (by kernel_rfl)
    have h159 := @run_callFunc_extern Tryz.prog 159 _ (ReflectliteType.relation "AssignableTo" ReflectliteType.assignableTo) Tryz.func159 (by kernel_rfl) (by kernel_rfl) (by kernel_rfl) (by kernel_rfl)
    have mA := mAssn
    go_enter Tryz.func43, Tryz.ntmps43
    go_wp2
    go_loopw [0] (fun v wr => ∃ f : Er, v = .iface f.ty f.cont ∧ f.lies wr ∧ f.size ≤ n + 1 ∧ fstF e = fstF f ∧ Below w.heap.size w wr ∧ Blk wr w.heap.size #[.pointer (some ⟨9, 66, none⟩), .pointer (some ⟨vb, 0, none⟩), .int .u64 150] 97) (fun v wr => szv wr v)
    case atStart => exact ⟨e, rfl, Er.lies.keep ((Below.refl _ w).alloc (Nat.le_refl _) _) HL.out, HS.out, rfl, (Below.refl _ w).alloc (Nat.le_refl _) _, Blk.new rfl⟩
    case round =>
      obtain ⟨f, rfl, hf, hfs, hh, hb, hs⟩ := hrel
      have tO := refl_typeOf f
      have aT := assn_F f
      cases hq : isF f with
      | true =>
        rw [hq] at aT
        obtain ⟨k, o, rfl⟩ := isF_of hq
        have hT := Blk.keep hb HT.out
        have hV := Blk.keep hb HV.out
        have h49 := @run_callFunc_extern Tryz.prog 49 _ (ReflectliteValue.method (ReflectliteValue.valueError "reflectlite.Value.Elem" 0) ReflectliteValue.elem) Tryz.func49 (by kernel_rfl) (by kernel_rfl) (by kernel_rfl) (by kernel_rfl)
        have h40 := @run_callFunc_extern Tryz.prog 40 _ (fun args => ReflectliteValue.unpack (args.getD 0 (.tuple #[]))) Tryz.func40 (by kernel_rfl) (by kernel_rfl) (by kernel_rfl) (by kernel_rfl)
        have h50 := @run_callFunc_extern Tryz.prog 50 _ ReflectliteValue.set Tryz.func50 (by kernel_rfl) (by kernel_rfl) (by kernel_rfl) (by kernel_rfl)
        have s0 := hs.cell 0
        have s1 := hs.cell 1
        have s2 := hs.cell 2
        have el := elemV_F ⟨vb, 0, none⟩ ⟨t, 0, none⟩ wr hV.one
        have vT : (ReflectliteValue.unpack (.iface (Er.flt k o).ty (Er.flt k o).cont)).run Tryz.prog wr = .ok (.agg #[.pointer (some ⟨9, 65, none⟩), .pointer (some ⟨wr.heap.size, 0, none⟩), .int .u64 153]) (wr.alloc (.cells #[.int .i64 k, .int .i64 o] 65)) := valueOfT_F k o wr
        have hTa : Blk (wr.alloc (.cells #[.int .i64 k, .int .i64 o] 65)) t #[x, y] 65 := hT.old _
        have hNew : Blk (wr.alloc (.cells #[.int .i64 k, .int .i64 o] 65)) wr.heap.size #[.int .i64 k, .int .i64 o] 65 := Blk.new rfl
        have st := set_F t wr.heap.size k o x y (wr.alloc (.cells #[.int .i64 k, .int .i64 o] 65)) hNew hTa
        have hr : fstF e = some (k, o) := hh
        have HE := Lib.hid ((((hb.mono (Nat.le_of_lt HT.out.lt)).alloc (Nat.le_of_lt hT.lt) (.cells #[.int .i64 k, .int .i64 o] 65)).setCell (p := ⟨t, 0, none⟩) (Nat.le_refl t) (.int .i64 k)).setCell (p := ⟨t, 1, none⟩) (Nat.le_refl t) (.int .i64 o))
        have HTN := Lib.hid ((hTa.put (i := 0) (.int .i64 k)).put (i := 1) (.int .i64 o))
        have HR := Lib.hid hr
        clear hT hV hTa hNew hr hh hf hfs hb hq hs
        go_wp2
        go_ret
        exact .inl ⟨(k, o), HR.out, rfl, HE.out, HTN.out⟩
      | false =>
        rw [hq] at aT
        have ha := asAs_any f
        have HF := Lib.hid hf; have HFS := Lib.hid hfs; have HB := Lib.hid hb; have HSV := Lib.hid hs
        clear hs
        cases hu : f.un with
        | some g =>
          have hh' : fstF e = fstF g := by rw [hh, fstF_un hq hu]
          have u1 := asUn_some hu
          have m1 := mUn_some hu
          have hn := eq_nil g
          have HU := Lib.hid hu; have HH := Lib.hid hh'
          clear hh hf hfs hb hu hh' hq
          have hc := fun w => unf_calls HU.out w
          rcases unf_cases HU.out with h3 | h3 | h3
          · rw [h3] at m1 hc
            have HC := Lib.hid hc
            clear hc
            go_wp2_with (go_at_call 149; refine (HC.out _ HF.out).mono ?_; rintro ev w2 ⟨rfl, hb2⟩; have HB2 := Lib.hid hb2; clear hb2)
            go_roundw
            case rel => exact ⟨g, rfl, (by have := Er.un_lies HF.out; rw [HU.out] at this; exact Er.lies.keep HB2.out this), by have := Er.un_size HU.out; have := HFS.out; omega, HH.out, keepW HB.out HB2.out, Blk.keep HB2.out HSV.out⟩
            case measure =>
              have h1 := szv_of HF.out
              have h2 := szv_of (e := g) (w := w2) (by have := Er.un_lies HF.out; rw [HU.out] at this; exact Er.lies.keep HB2.out this)
              rw [h1, h2]
              exact Er.un_size HU.out
          · rw [h3] at m1 hc
            have HC := Lib.hid hc
            clear hc
            go_wp2_with (go_at_call 152; refine (HC.out _ HF.out).mono ?_; rintro ev w2 ⟨rfl, hb2⟩; have HB2 := Lib.hid hb2; clear hb2)
            go_roundw
            case rel => exact ⟨g, rfl, (by have := Er.un_lies HF.out; rw [HU.out] at this; exact Er.lies.keep HB2.out this), by have := Er.un_size HU.out; have := HFS.out; omega, HH.out, keepW HB.out HB2.out, Blk.keep HB2.out HSV.out⟩
            case measure =>
              have h1 := szv_of HF.out
              have h2 := szv_of (e := g) (w := w2) (by have := Er.un_lies HF.out; rw [HU.out] at this; exact Er.lies.keep HB2.out this)
              rw [h1, h2]
              exact Er.un_size HU.out
          · rw [h3] at m1 hc
            have HC := Lib.hid hc
            clear hc
            go_wp2_with (go_at_call 147; refine (HC.out _ HF.out).mono ?_; rintro ev w2 ⟨rfl, hb2⟩; have HB2 := Lib.hid hb2; clear hb2)
            go_roundw
            case rel => exact ⟨g, rfl, (by have := Er.un_lies HF.out; rw [HU.out] at this; exact Er.lies.keep HB2.out this), by have := Er.un_size HU.out; have := HFS.out; omega, HH.out, keepW HB.out HB2.out, Blk.keep HB2.out HSV.out⟩
            case measure =>
              have h1 := szv_of HF.out
              have h2 := szv_of (e := g) (w := w2) (by have := Er.un_lies HF.out; rw [HU.out] at this; exact Er.lies.keep HB2.out this)
              rw [h1, h2]
              exact Er.un_size HU.out
        | none =>
          have u1 := asUn_none hu
          have u2 := asUs_any f
          cases hj : f.isJoin with
          | false =>
            have hr : fstF e = none := by rw [hh, fstF_leaf hq hu hj]
            rw [hj] at u2
            simp only [Bool.false_eq_true, if_false] at u2
            clear hh hf hfs hb hu hq hj
            go_wp2
            go_ret
            exact .inr ⟨hr, rfl, HB.out⟩
          | true =>
            obtain ⟨b, r, a, g, rfl⟩ := has_join hj
            have hr : fstF e = fstF g := hh
            rw [hj] at u2
            simp only [if_true] at u2
            have m1 := mUs_join b r a g
            have hc := fun w => unfJ_calls (b := b) (r := r) (a := a) (e := g) w
            obtain ⟨c0, c1⟩ := join_cells hf
            have hso : (Er.oth a).size ≤ n := by have h1 := hfs; simp only [Er.size] at h1 ⊢; cases g <;> simp only [Er.size] at h1 <;> omega
            have hsg : g.size ≤ n := by have h1 := hfs; simp only [Er.size] at h1; omega
            have hlo : (Er.oth a).lies wr := hf.2.2.1
            have hlg : g.lies wr := hf.2.2.2
            have hcell : ∀ w' : World, Below wr.heap.size wr w' → w'.cell? ⟨r, 1, none⟩ = some (.iface g.ty g.cont) := fun w' h => (join_cells (hf.keep h)).2
            have hT := Blk.keep hb HT.out
            have hV := Blk.keep hb HV.out
            have hc0 := IH.out (.oth a) hso t vb _ _ wr hlo hT hV
            have s0 := HSV.out.cell 0
            have s1 := HSV.out.cell 1
            have s2 := HSV.out.cell 2
            have hn0 := eq_nil (.oth a)
            have hn1 := eq_nil g
            have HCELL := Lib.hid hcell; have HR := Lib.hid hr; have HC := Lib.hid hc; have HC0 := Lib.hid hc0; have HSG := Lib.hid hsg; have HLG := Lib.hid hlg; have HTW := Lib.hid hT; have HVW := Lib.hid hV
            clear hh hf hfs hb hu hq hj hr hc hc0 hso hsg hlo hlg hT hV hcell
            go_wp2_with (go_at_call 154; refine (HC.out _ HF.out).mono ?_; rintro ev w2 ⟨rfl, rfl⟩)
            refine wp_loop_rounds 3 ?_
            rw [rounds_succ]
            go_wp2_with (go_at_call 43; refine HC0.out.mono ?_; rintro ev w3 (⟨k, hk, _⟩ | ⟨_, rfl, hb3⟩); (cases hk); have HB3 := Lib.hid hb3; have c13 := HCELL.out _ hb3; have s03 := (Blk.keep hb3 HSV.out).cell 0; have s13 := (Blk.keep hb3 HSV.out).cell 1; have s23 := (Blk.keep hb3 HSV.out).cell 2; clear hb3)
            have hc1 := IH.out g HSG.out t vb _ _ w3 (Er.lies.keep HB3.out HLG.out) (Blk.keep HB3.out HTW.out) (Blk.keep HB3.out HVW.out)
            have HC1 := Lib.hid hc1
            clear hc1
            rw [rounds_succ]
            cases hqg : fstF g with
            | some k =>
              have HK := Lib.hid hqg
              clear hqg
              go_wp2_with (go_at_call 43; refine HC1.out.mono ?_; rintro ev w4 h4; obtain ⟨rfl, hb4, ht4⟩ := PostF_some HK.out h4; have HB4 := Lib.hid hb4; have HT4 := Lib.hid ht4; clear hb4 ht4 h4)
              go_ret
              exact .inl ⟨k, HR.out.trans HK.out, rfl, ((HB.out.mono (Nat.le_of_lt HT.out.lt)).trans (HB3.out.mono (Nat.le_of_lt HTW.out.lt))).trans HB4.out, HT4.out⟩
            | none =>
              have HK := Lib.hid hqg
              clear hqg
              go_wp2_with (go_at_call 43; refine HC1.out.mono ?_; rintro ev w4 h4; obtain ⟨rfl, hb4⟩ := PostF_none HK.out h4; have HB4 := Lib.hid hb4; clear hb4 h4)
              rw [rounds_succ]
              go_wp2
              go_ret
              exact .inr ⟨by rw [HR.out]; exact HK.out, rfl, keepW (keepW HB.out HB3.out) HB4.out⟩
end Go.Proofs.YtidkpdabidlnnaaGreatDoor


/-
  errors.As, at a sort and at a fault.
-/

namespace Go.Proofs.YtidkpdabidlnnaaGreatDoor

open Go.RowKit Go.Extern.Stop Go.Stop Go.Extern

set_option maxRecDepth 100000

/-- What errors.As reads of the package's own variable. -/
def ErrT (w : World) : Prop := w.cell? ⟨0, 0, none⟩ = some (.iface 113 (.agg #[.pointer (some ⟨9, 27, none⟩)]))
theorem PostS_ret {e : Er} {t : Nat} {w w' : World} {ev : Ending} (h : PostS e t w ev w') : ∃ b, ev = .returned (.bool b) := by
  rcases h with ⟨_, _, h, _⟩ | ⟨_, h, _⟩ <;> exact ⟨_, h⟩
theorem PostF_ret {e : Er} {t : Nat} {w w' : World} {ev : Ending} (h : PostF e t w ev w') : ∃ b, ev = .returned (.bool b) := by
  rcases h with ⟨_, _, h, _⟩ | ⟨_, h, _⟩ <;> exact ⟨_, h⟩
set_option maxHeartbeats 4000000 in
theorem As_S (e : Er) (t : Nat) (x : Value) (w : World) (hl : e.lies w) (ht : Blk w t #[x] 41) (hE : ErrT w) :
    Calls Tryz.prog 27 #[.iface e.ty e.cont, .iface 60 (.pointer (some ⟨t, 0, none⟩))] w (PostS e t w) := by
  have h40 := @run_callFunc_extern Tryz.prog 40 _ (fun args => ReflectliteValue.unpack (args.getD 0 (.tuple #[]))) Tryz.func40 (by kernel_rfl) (by kernel_rfl) (by kernel_rfl) (by kernel_rfl)
  have h41 := @run_callFunc_extern Tryz.prog 41 _ (ReflectliteValue.methodAny (ReflectliteValue.valueError "reflectlite.Value.Type" 0) (fun t _ _ _ => ReflectliteType.toType t)) Tryz.func41 (by kernel_rfl) (by kernel_rfl) (by kernel_rfl) (by kernel_rfl)
  have h42 := @run_callFunc_extern Tryz.prog 42 _ (ReflectliteValue.method (ReflectliteValue.valueError "reflectlite.Value.IsNil" 0) ReflectliteValue.isNil) Tryz.func42 (by kernel_rfl) (by kernel_rfl) (by kernel_rfl) (by kernel_rfl)
  have h143 := @run_callFunc_extern Tryz.prog 143 _ (ReflectliteType.abiMethod fun t => do pure (.int .u8 (← Rtype.kind t))) Tryz.func143 (by kernel_rfl) (by kernel_rfl) (by kernel_rfl) (by kernel_rfl)
  have h161 := @run_callFunc_extern Tryz.prog 161 _ (ReflectliteType.method ReflectliteType.elem) Tryz.func161 (by kernel_rfl) (by kernel_rfl) (by kernel_rfl) (by kernel_rfl)
  have h162 := @run_callFunc_extern Tryz.prog 162 _ (ReflectliteType.relation "Implements" ReflectliteType.implements_) Tryz.func162 (by kernel_rfl) (by kernel_rfl) (by kernel_rfl) (by kernel_rfl)
  obtain ⟨W1, hW1⟩ : ∃ W1, W1 = w.alloc (.cells #[.pointer (some ⟨t, 0, none⟩)] 60) := ⟨_, rfl⟩
  obtain ⟨W2, hW2⟩ : ∃ W2, W2 = W1.alloc (.cells #[.pointer (some ⟨9, 60, none⟩), .pointer (some ⟨w.heap.size, 0, none⟩), .int .u64 150] 97) := ⟨_, rfl⟩
  have b1 : Below w.heap.size w W1 := by rw [hW1]; exact (Below.refl _ w).alloc (Nat.le_refl _) _
  have b2 : Below w.heap.size w W2 := by rw [hW2]; exact b1.alloc b1.size _
  have hv1 : Blk W1 w.heap.size #[.pointer (some ⟨t, 0, none⟩)] 60 := by rw [hW1]; exact Blk.new rfl
  have hv2 : Blk W2 w.heap.size #[.pointer (some ⟨t, 0, none⟩)] 60 := by rw [hW2]; exact hv1.old _
  have hs2 : Blk W2 W1.heap.size #[.pointer (some ⟨9, 60, none⟩), .pointer (some ⟨w.heap.size, 0, none⟩), .int .u64 150] 97 := by rw [hW2]; exact Blk.new rfl
  have s0 := hs2.cell 0
  have s1 := hs2.cell 1
  have s2 := hs2.cell 2
  have hE2 : W2.cell? ⟨0, 0, none⟩ = some (.iface 113 (.agg #[.pointer (some ⟨9, 27, none⟩)])) := by
    have h := hE
    unfold ErrT at h
    have hlt : 0 < w.heap.size := by
      rcases Nat.lt_or_ge 0 w.heap.size with h1 | h1
      · exact h1
      · simp [World.cell?, Array.getElem?_eq_none h1] at h
    rw [← h]
    unfold World.cell?
    simp only
    rw [b2.block _ hlt]
  have vP : (ReflectliteValue.unpack (.iface 60 (.pointer (some ⟨t, 0, none⟩)))).run Tryz.prog w = .ok (.agg #[.pointer (some ⟨9, 60, none⟩), .pointer (some ⟨w.heap.size, 0, none⟩), .int .u64 150]) W1 := by rw [hW1]; exact valueOfP_S ⟨t, 0, none⟩ w
  have nP := isNilP_S ⟨w.heap.size, 0, none⟩ ⟨t, 0, none⟩ W2 hv2.one
  have HC := Lib.hid fun _ : Unit => as_S e.size e (Nat.le_refl _) t w.heap.size x W2 (hl.keep b2) (Blk.keep b2 ht) hv2
  have HB := Lib.hid b2
  have HT := Lib.hid ht.lt
  have hA : W1.alloc (.cells #[.pointer (some ⟨9, 60, none⟩), .pointer (some ⟨w.heap.size, 0, none⟩), .int .u64 150] 97) = W2 := hW2.symm
  have hn := eq_nil e
  have tP := typeP_S
  have kP := kindP2_S
  have kT := kindT_S
  have eP := elemP_S
  have iT := implT_S
  have mK := mKind
  have mE := mElem
  have mI := mImpl
  clear hE b1 b2 hv1 hv2 hl ht hW1 hW2 hs2
  go_enter Tryz.func27, Tryz.ntmps27
  go_wp2_with (go_at_call 43; refine (HC.out ()).mono ?_; rintro ev w4 h4; obtain ⟨tb, rfl⟩ := PostS_ret h4; have H4 := Lib.hid h4; clear h4)
  go_ret
  rcases H4.out with ⟨k, h1, h2, h3, h4⟩ | ⟨h1, h2, h3⟩
  · exact .inl ⟨k, h1, h2, (HB.out.mono (Nat.le_of_lt HT.out)).trans h3, h4⟩
  · exact .inr ⟨h1, h2, keepW HB.out h3⟩
set_option maxHeartbeats 4000000 in
theorem As_F (e : Er) (t : Nat) (x y : Value) (w : World) (hl : e.lies w) (ht : Blk w t #[x, y] 65) (hE : ErrT w) :
    Calls Tryz.prog 27 #[.iface e.ty e.cont, .iface 66 (.pointer (some ⟨t, 0, none⟩))] w (PostF e t w) := by
  have h40 := @run_callFunc_extern Tryz.prog 40 _ (fun args => ReflectliteValue.unpack (args.getD 0 (.tuple #[]))) Tryz.func40 (by kernel_rfl) (by kernel_rfl) (by kernel_rfl) (by kernel_rfl)
  have h41 := @run_callFunc_extern Tryz.prog 41 _ (ReflectliteValue.methodAny (ReflectliteValue.valueError "reflectlite.Value.Type" 0) (fun t _ _ _ => ReflectliteType.toType t)) Tryz.func41 (by kernel_rfl) (by kernel_rfl) (by kernel_rfl) (by kernel_rfl)
  have h42 := @run_callFunc_extern Tryz.prog 42 _ (ReflectliteValue.method (ReflectliteValue.valueError "reflectlite.Value.IsNil" 0) ReflectliteValue.isNil) Tryz.func42 (by kernel_rfl) (by kernel_rfl) (by kernel_rfl) (by kernel_rfl)
  have h143 := @run_callFunc_extern Tryz.prog 143 _ (ReflectliteType.abiMethod fun t => do pure (.int .u8 (← Rtype.kind t))) Tryz.func143 (by kernel_rfl) (by kernel_rfl) (by kernel_rfl) (by kernel_rfl)
  have h161 := @run_callFunc_extern Tryz.prog 161 _ (ReflectliteType.method ReflectliteType.elem) Tryz.func161 (by kernel_rfl) (by kernel_rfl) (by kernel_rfl) (by kernel_rfl)
  have h162 := @run_callFunc_extern Tryz.prog 162 _ (ReflectliteType.relation "Implements" ReflectliteType.implements_) Tryz.func162 (by kernel_rfl) (by kernel_rfl) (by kernel_rfl) (by kernel_rfl)
  obtain ⟨W1, hW1⟩ : ∃ W1, W1 = w.alloc (.cells #[.pointer (some ⟨t, 0, none⟩)] 66) := ⟨_, rfl⟩
  obtain ⟨W2, hW2⟩ : ∃ W2, W2 = W1.alloc (.cells #[.pointer (some ⟨9, 66, none⟩), .pointer (some ⟨w.heap.size, 0, none⟩), .int .u64 150] 97) := ⟨_, rfl⟩
  have b1 : Below w.heap.size w W1 := by rw [hW1]; exact (Below.refl _ w).alloc (Nat.le_refl _) _
  have b2 : Below w.heap.size w W2 := by rw [hW2]; exact b1.alloc b1.size _
  have hv1 : Blk W1 w.heap.size #[.pointer (some ⟨t, 0, none⟩)] 66 := by rw [hW1]; exact Blk.new rfl
  have hv2 : Blk W2 w.heap.size #[.pointer (some ⟨t, 0, none⟩)] 66 := by rw [hW2]; exact hv1.old _
  have hs2 : Blk W2 W1.heap.size #[.pointer (some ⟨9, 66, none⟩), .pointer (some ⟨w.heap.size, 0, none⟩), .int .u64 150] 97 := by rw [hW2]; exact Blk.new rfl
  have s0 := hs2.cell 0
  have s1 := hs2.cell 1
  have s2 := hs2.cell 2
  have hE2 : W2.cell? ⟨0, 0, none⟩ = some (.iface 113 (.agg #[.pointer (some ⟨9, 27, none⟩)])) := by
    have h := hE
    unfold ErrT at h
    have hlt : 0 < w.heap.size := by
      rcases Nat.lt_or_ge 0 w.heap.size with h1 | h1
      · exact h1
      · simp [World.cell?, Array.getElem?_eq_none h1] at h
    rw [← h]
    unfold World.cell?
    simp only
    rw [b2.block _ hlt]
  have vP : (ReflectliteValue.unpack (.iface 66 (.pointer (some ⟨t, 0, none⟩)))).run Tryz.prog w = .ok (.agg #[.pointer (some ⟨9, 66, none⟩), .pointer (some ⟨w.heap.size, 0, none⟩), .int .u64 150]) W1 := by rw [hW1]; exact valueOfP_F ⟨t, 0, none⟩ w
  have nP := isNilP_F ⟨w.heap.size, 0, none⟩ ⟨t, 0, none⟩ W2 hv2.one
  have HC := Lib.hid fun _ : Unit => as_F e.size e (Nat.le_refl _) t w.heap.size x y W2 (hl.keep b2) (Blk.keep b2 ht) hv2
  have HB := Lib.hid b2
  have HT := Lib.hid ht.lt
  have hA : W1.alloc (.cells #[.pointer (some ⟨9, 66, none⟩), .pointer (some ⟨w.heap.size, 0, none⟩), .int .u64 150] 97) = W2 := hW2.symm
  have hn := eq_nil e
  have tP := typeP_F
  have kP := kindP2_F
  have kT := kindT_F
  have eP := elemP_F
  have iT := implT_F
  have mK := mKind
  have mE := mElem
  have mI := mImpl
  clear hE b1 b2 hv1 hv2 hl ht hW1 hW2 hs2
  go_enter Tryz.func27, Tryz.ntmps27
  go_wp2_with (go_at_call 43; refine (HC.out ()).mono ?_; rintro ev w4 h4; obtain ⟨tb, rfl⟩ := PostF_ret h4; have H4 := Lib.hid h4; clear h4)
  go_ret
  rcases H4.out with ⟨k, h1, h2, h3, h4⟩ | ⟨h1, h2, h3⟩
  · exact .inl ⟨k, h1, h2, (HB.out.mono (Nat.le_of_lt HT.out)).trans h3, h4⟩
  · exact .inr ⟨h1, h2, keepW HB.out h3⟩
end Go.Proofs.YtidkpdabidlnnaaGreatDoor


/-
  Kind, Off, Is, New of any error.
-/


namespace Go.Proofs.YtidkpdabidlnnaaGreatDoor

open Go.RowKit

set_option maxRecDepth 100000

theorem ErrT.keep {w w' : World} (h : ErrT w) (hb : Below w.heap.size w w') : ErrT w' := by
  unfold ErrT at *
  have hlt : 0 < w.heap.size := by
    rcases Nat.lt_or_ge 0 w.heap.size with h1 | h1
    · exact h1
    · simp [World.cell?, Array.getElem?_eq_none h1] at h
  rw [← h]
  unfold World.cell?
  simp only
  rw [hb.block _ hlt]
set_option maxHeartbeats 4000000 in
theorem kind_any (e : Er) (w : World) (hl : e.lies w) (hs : e.size ≤ 1000000) (hE : ErrT w) :
    Calls Tryz.prog 10 #[.iface e.ty e.cont] w fun ev w' => ev = .returned (.tuple #[.int .i64 ((fstS e).getD 0), .bool (fstS e).isSome]) ∧ Below w.heap.size w w' := by
  obtain ⟨W1, hW1⟩ : ∃ W1, W1 = w.alloc (.cells #[.int .i64 0] 41) := ⟨_, rfl⟩
  have b1 : Below w.heap.size w W1 := by rw [hW1]; exact (Below.refl _ w).alloc (Nat.le_refl _) _
  have ht : Blk W1 w.heap.size #[.int .i64 0] 41 := by rw [hW1]; exact Blk.new rfl
  have HEN := Lib.hid fun _ : Unit => ends_any e W1 (hl.keep b1) hs
  have HA := Lib.hid fun (W2 : World) (hb : Below W1.heap.size W1 W2) => As_S e w.heap.size _ W2 ((hl.keep b1).keep hb) (Blk.keep hb ht) ((hE.keep b1).keep hb)
  have HB := Lib.hid b1
  have HT := Lib.hid ht
  have hA := hW1.symm
  clear hl hs hE b1 ht hW1
  cases hf : fstS e with
  | some k =>
    have HF := Lib.hid hf
    clear hf
    go_enter Tryz.func10, Tryz.ntmps10
    go_wp2_with (first
      | (go_at_call 29; refine (HEN.out ()).mono ?_; rintro ev w2 ⟨rfl, hb2⟩; have HB2 := Lib.hid hb2; clear hb2)
      | (go_at_call 27; refine (HA.out _ HB2.out).mono ?_; rintro ev w3 h3; obtain ⟨rfl, hb3, ht3⟩ := PostS_some HF.out h3; have HB3 := Lib.hid hb3; have c0 := ht3.cell 0; clear hb3 ht3 h3))
    go_ret2
    exact ⟨rfl, (keepW HB.out HB2.out).trans HB3.out⟩
  | none =>
    have HF := Lib.hid hf
    clear hf
    go_enter Tryz.func10, Tryz.ntmps10
    go_wp2_with (first
      | (go_at_call 29; refine (HEN.out ()).mono ?_; rintro ev w2 ⟨rfl, hb2⟩; have HB2 := Lib.hid hb2; clear hb2)
      | (go_at_call 27; refine (HA.out _ HB2.out).mono ?_; rintro ev w3 h3; obtain ⟨rfl, hb3⟩ := PostS_none HF.out h3; have HB3 := Lib.hid hb3; clear hb3 h3))
    go_ret2
    exact ⟨rfl, keepW (keepW HB.out HB2.out) HB3.out⟩
set_option maxHeartbeats 4000000 in
theorem off_any (e : Er) (w : World) (hl : e.lies w) (hs : e.size ≤ 1000000) (hE : ErrT w) :
    Calls Tryz.prog 11 #[.iface e.ty e.cont] w fun ev w' => ev = .returned (.tuple #[.int .i64 ((fstF e).getD (0, 0)).2, .bool (fstF e).isSome]) ∧ Below w.heap.size w w' := by
  obtain ⟨W1, hW1⟩ : ∃ W1, W1 = w.alloc (.cells #[.int .i64 0, .int .i64 0] 65) := ⟨_, rfl⟩
  have b1 : Below w.heap.size w W1 := by rw [hW1]; exact (Below.refl _ w).alloc (Nat.le_refl _) _
  have ht : Blk W1 w.heap.size #[.int .i64 0, .int .i64 0] 65 := by rw [hW1]; exact Blk.new rfl
  have HEN := Lib.hid fun _ : Unit => ends_any e W1 (hl.keep b1) hs
  have HA := Lib.hid fun (W2 : World) (hb : Below W1.heap.size W1 W2) => As_F e w.heap.size _ _ W2 ((hl.keep b1).keep hb) (Blk.keep hb ht) ((hE.keep b1).keep hb)
  have HB := Lib.hid b1
  have HT := Lib.hid ht
  have hA := hW1.symm
  clear hl hs hE b1 ht hW1
  cases hf : fstF e with
  | some k =>
    have HF := Lib.hid hf
    clear hf
    go_enter Tryz.func11, Tryz.ntmps11
    go_wp2_with (first
      | (go_at_call 29; refine (HEN.out ()).mono ?_; rintro ev w2 ⟨rfl, hb2⟩; have HB2 := Lib.hid hb2; clear hb2)
      | (go_at_call 27; refine (HA.out _ HB2.out).mono ?_; rintro ev w3 h3; obtain ⟨rfl, hb3, ht3⟩ := PostF_some HF.out h3; have HB3 := Lib.hid hb3; have c0 := ht3.cell 0; have c1 := ht3.cell 1; clear hb3 ht3 h3))
    go_ret2
    exact ⟨rfl, (keepW HB.out HB2.out).trans HB3.out⟩
  | none =>
    have HF := Lib.hid hf
    clear hf
    go_enter Tryz.func11, Tryz.ntmps11
    go_wp2_with (first
      | (go_at_call 29; refine (HEN.out ()).mono ?_; rintro ev w2 ⟨rfl, hb2⟩; have HB2 := Lib.hid hb2; clear hb2)
      | (go_at_call 27; refine (HA.out _ HB2.out).mono ?_; rintro ev w3 h3; obtain ⟨rfl, hb3⟩ := PostF_none HF.out h3; have HB3 := Lib.hid hb3; clear hb3 h3))
    go_ret2
    exact ⟨rfl, keepW (keepW HB.out HB2.out) HB3.out⟩
theorem fis_any (e : Er) (k : Int) (w : World) (hl : e.lies w) (hs : e.size ≤ 1000000) :
    Calls Tryz.prog 16 #[.iface e.ty e.cont, .int .i64 k] w fun ev w' => ev = .returned (.bool (has (qS k) e)) ∧ Below w.heap.size w w' := by
  have HEN := Lib.hid fun _ : Unit => ends_any e w hl hs
  have HI := Lib.hid fun (W2 : World) (hb : Below w.heap.size w W2) => Is_sort k e W2 (hl.keep hb)
  clear hl hs
  go_enter Tryz.func16, Tryz.ntmps16
  go_wp2_with (first
    | (go_at_call 29; refine (HEN.out ()).mono ?_; rintro ev w2 ⟨rfl, hb2⟩; have HB2 := Lib.hid hb2; clear hb2)
    | (go_at_call 23; refine (HI.out _ HB2.out).mono ?_; rintro ev w3 ⟨rfl, hb3⟩; have HB3 := Lib.hid hb3; clear hb3))
  go_ret
  exact ⟨rfl, keepW HB2.out HB3.out⟩
theorem new_any (k o : Int) (hk : k ≠ 0) (w : World) :
    Calls Tryz.prog 24 #[.int .i64 k, .int .i64 o] w fun ev w' => ev = .returned (.iface (Er.flt k o).ty (Er.flt k o).cont) ∧ Below w.heap.size w w' := by
  have hk' : (k == 0) = false := by rw [beq_eq_false_iff_ne]; exact hk
  go_enter Tryz.func24, Tryz.ntmps24
  go_wp2
  go_ret
  exact ⟨rfl, Below.refl _ _⟩
theorem new_zero (o : Int) (w : World) :
    Calls Tryz.prog 24 #[.int .i64 0, .int .i64 o] w fun ev w' => ev = .returned .nilIface ∧ w' = w := by
  go_enter Tryz.func24, Tryz.ntmps24
  go_wp2
  go_ret
  exact ⟨rfl, rfl⟩
end Go.Proofs.YtidkpdabidlnnaaGreatDoor


/-
  What is asked of no error.
-/

namespace Go.Proofs.YtidkpdabidlnnaaGreatDoor

open Go.RowKit

set_option maxRecDepth 100000

theorem asUn_nil (xT : TypeId) (w : World) : (Instr.typeAssert .nilIface xT 87 true).run Tryz.prog w = .ok (.tuple #[.nilIface, .bool false]) w := by kernel_rfl
theorem asUs_nil (xT : TypeId) (w : World) : (Instr.typeAssert .nilIface xT 104 true).run Tryz.prog w = .ok (.tuple #[.nilIface, .bool false]) w := by kernel_rfl
theorem asN_nil (xT : TypeId) (w : World) : (Instr.typeAssert .nilIface xT 80 true).run Tryz.prog w = .ok (.tuple #[.pointer none, .bool false]) w := by kernel_rfl
theorem asF_nil (xT : TypeId) (w : World) : (Instr.typeAssert .nilIface xT 65 true).run Tryz.prog w = .ok (.tuple #[.agg #[.int .i64 0, .int .i64 0], .bool false]) w := by kernel_rfl
set_option maxHeartbeats 4000000 in
theorem ends_nil (w : World) :
    Calls Tryz.prog 29 #[.nilIface] w fun ev w' => ev = .returned (.bool true) ∧ Below w.heap.size w w' := by
  have u1 := asUn_nil
  have u2 := asUs_nil
  have c0 : (w.alloc (.cells #[.nilIface] 27)).cell? ⟨w.heap.size, 0, none⟩ = some .nilIface := (Blk.new rfl).one
  go_enter Tryz.func29, Tryz.ntmps29
  go_wp2
  refine wp_loop_rounds 2 ?_
  rw [rounds_succ]
  go_wp2
  rw [rounds_succ]
  go_wp2
  go_ret
  exact ⟨rfl, (Below.refl _ w).alloc (Nat.le_refl _) _⟩
theorem as_nil (t : Value) (w : World) :
    Calls Tryz.prog 27 #[.nilIface, t] w fun e w' => e = .returned (.bool false) ∧ w' = w := by
  go_enter Tryz.func27, Tryz.ntmps27
  go_wp2
  go_ret
  exact ⟨rfl, rfl⟩
theorem kind_nil (w : World) :
    Calls Tryz.prog 10 #[.nilIface] w fun ev w' => ev = .returned (.tuple #[.int .i64 0, .bool false]) ∧ Below w.heap.size w w' := by
  obtain ⟨W1, hW1⟩ : ∃ W1, W1 = w.alloc (.cells #[.int .i64 0] 41) := ⟨_, rfl⟩
  have b1 : Below w.heap.size w W1 := by rw [hW1]; exact (Below.refl _ w).alloc (Nat.le_refl _) _
  have HB := Lib.hid b1
  have hA := hW1.symm
  clear b1 hW1
  go_enter Tryz.func10, Tryz.ntmps10
  go_wp2_with (first
    | (go_at_call 29; refine (ends_nil _).mono ?_; rintro ev w2 ⟨rfl, hb2⟩; have HB2 := Lib.hid hb2; clear hb2)
    | (go_at_call 27; refine (as_nil _ _).mono ?_; rintro ev w3 ⟨rfl, rfl⟩))
  go_ret2
  exact ⟨rfl, keepW HB.out HB2.out⟩
theorem off_nil (w : World) :
    Calls Tryz.prog 11 #[.nilIface] w fun ev w' => ev = .returned (.tuple #[.int .i64 0, .bool false]) ∧ Below w.heap.size w w' := by
  obtain ⟨W1, hW1⟩ : ∃ W1, W1 = w.alloc (.cells #[.int .i64 0, .int .i64 0] 65) := ⟨_, rfl⟩
  have b1 : Below w.heap.size w W1 := by rw [hW1]; exact (Below.refl _ w).alloc (Nat.le_refl _) _
  have HB := Lib.hid b1
  have hA := hW1.symm
  clear b1 hW1
  go_enter Tryz.func11, Tryz.ntmps11
  go_wp2_with (first
    | (go_at_call 29; refine (ends_nil _).mono ?_; rintro ev w2 ⟨rfl, hb2⟩; have HB2 := Lib.hid hb2; clear hb2)
    | (go_at_call 27; refine (as_nil _ _).mono ?_; rintro ev w3 ⟨rfl, rfl⟩))
  go_ret2
  exact ⟨rfl, keepW HB.out HB2.out⟩
set_option maxHeartbeats 4000000 in
theorem peel_nil (w : World) :
    Calls Tryz.prog 30 #[.nilIface] w fun ev w' => ev = .returned (.tuple #[.slice none 0 0, .nilIface]) ∧ w' = w := by
  have u1 := asN_nil
  go_enter Tryz.func30, Tryz.ntmps30
  go_wp2
  refine wp_loop_rounds 1 ?_
  rw [rounds_succ]
  go_wp2
  go_ret2
  exact ⟨rfl, rfl⟩
theorem line_nil (w : World) :
    Calls Tryz.prog 12 #[.nilIface] w fun ev w' => ev = .returned (.tuple #[.string ⟨#[]⟩, .bool false]) ∧ Below w.heap.size w w' := by
  have u1 := asF_nil
  go_enter Tryz.func12, Tryz.ntmps12
  go_wp2_with (go_at_call 30; refine (peel_nil _).mono ?_; rintro ev w3 ⟨rfl, rfl⟩)
  go_ret2
  exact ⟨rfl, (Below.refl _ _).alloc (Nat.le_refl _) _⟩
theorem notes_nil (w : World) :
    Calls Tryz.prog 15 #[.nilIface] w fun ev w' => ev = .returned (.slice none 0 0) ∧ w' = w := by
  go_enter Tryz.func15, Tryz.ntmps15
  go_wp2_with (go_at_call 30; refine (peel_nil _).mono ?_; rintro ev w3 ⟨rfl, rfl⟩)
  go_ret
  exact ⟨rfl, rfl⟩
theorem wrap_nil (s : ByteArray) (w : World) :
    Calls Tryz.prog 22 #[.nilIface, .string s] w fun ev w' => ev = .returned .nilIface ∧ w' = w := by
  go_enter Tryz.func22, Tryz.ntmps22
  go_wp2
  go_ret
  exact ⟨rfl, rfl⟩
end Go.Proofs.YtidkpdabidlnnaaGreatDoor

/-
  A deterministic reading of Go functions: values, renamed blocks, heaps that are known in part.
-/
namespace Go.Den
open Go.RowKit

mutual
def ren (ρ : Nat → Nat) : Value → Value
  | .pointer (some a) => .pointer (some { a with block := ρ a.block })
  | .slice (some a) l c => .slice (some { a with block := ρ a.block }) l (ρ c)
  | .slice none l c => .slice none l (ρ c)
  | .map (some r) => .map (some (ρ r))
  | .chan (some r) => .chan (some (ρ r))
  | .func fn ⟨f⟩ ⟨c⟩ => .func fn ⟨renL ρ f⟩ ⟨renL ρ c⟩
  | .iface t v => .iface t (ren ρ v)
  | .agg ⟨cs⟩ => .agg ⟨renL ρ cs⟩
  | .tuple ⟨cs⟩ => .tuple ⟨renL ρ cs⟩
  | .bool b => .bool b
  | .int k n => .int k n
  | .float k b => .float k b
  | .complex k a b => .complex k a b
  | .string s => .string s
  | .pointer none => .pointer none
  | .map none => .map none
  | .chan none => .chan none
  | .nilFunc => .nilFunc
  | .nilIface => .nilIface
def renL (ρ : Nat → Nat) : List Value → List Value
  | [] => []
  | v :: r => ren ρ v :: renL ρ r
end
mutual
def bel (n : Nat) : Value → Bool
  | .pointer (some a) => Nat.blt a.block n
  | .slice (some a) _ c => Nat.blt a.block n && Nat.blt c n
  | .slice none _ c => Nat.blt c n
  | .map (some r) => Nat.blt r n
  | .chan (some r) => Nat.blt r n
  | .func _ ⟨f⟩ ⟨c⟩ => belL n f && belL n c
  | .iface _ v => bel n v
  | .agg ⟨cs⟩ => belL n cs
  | .tuple ⟨cs⟩ => belL n cs
  | .bool _ => true
  | .int _ _ => true
  | .float _ _ => true
  | .complex _ _ _ => true
  | .string _ => true
  | .pointer none => true
  | .map none => true
  | .chan none => true
  | .nilFunc => true
  | .nilIface => true
def belL (n : Nat) : List Value → Bool
  | [] => true
  | v :: r => bel n v && belL n r
end

theorem renL_eq (ρ : Nat → Nat) : ∀ l, renL ρ l = l.map (ren ρ)
  | [] => rfl
  | v :: r => by simp [renL, renL_eq ρ r]
theorem belL_eq (n : Nat) : ∀ l, belL n l = l.all (bel n)
  | [] => rfl
  | v :: r => by simp [belL, belL_eq n r]
theorem blt_iff {a b : Nat} : Nat.blt a b = true ↔ a < b := by
  unfold Nat.blt; rw [Nat.ble_eq]; exact Iff.rfl

theorem nbeq_iff {a b : Nat} : Nat.beq a b = true ↔ a = b := by rw [Nat.beq_eq]

section
variable {ρ : Nat → Nat}
theorem ren_agg (cs : Array Value) : ren ρ (.agg cs) = .agg (cs.map (ren ρ)) := by
  cases cs; simp [ren, renL_eq]
theorem ren_tuple (cs : Array Value) : ren ρ (.tuple cs) = .tuple (cs.map (ren ρ)) := by
  cases cs; simp [ren, renL_eq]
theorem ren_func (fn : Fn) (f c : Array Value) : ren ρ (.func fn f c) = .func fn (f.map (ren ρ)) (c.map (ren ρ)) := by
  cases f; cases c; simp [ren, renL_eq]
theorem bel_agg {n : Nat} {cs : Array Value} : bel n (.agg cs) = true ↔ ∀ v ∈ cs, bel n v = true := by
  cases cs; simp [bel, belL_eq]
theorem bel_tuple {n : Nat} {cs : Array Value} : bel n (.tuple cs) = true ↔ ∀ v ∈ cs, bel n v = true := by
  cases cs; simp [bel, belL_eq]
theorem bel_func {n : Nat} {fn : Fn} {f c : Array Value} : bel n (.func fn f c) = true ↔ (∀ v ∈ f, bel n v = true) ∧ ∀ v ∈ c, bel n v = true := by
  cases f; cases c; simp [bel, belL_eq]
theorem ren_undef : ren ρ undef = undef := by simp [undef, ren_tuple]
theorem bel_undef (n : Nat) : bel n undef = true := by simp [undef, bel_tuple]
end

mutual
theorem ren_agree {ρ ρ' : Nat → Nat} {n : Nat} (h : ∀ b, b < n → ρ' b = ρ b) : ∀ v, bel n v = true → ren ρ' v = ren ρ v
  | .pointer (some a), hb => by simp only [bel, blt_iff] at hb; simp [ren, h _ hb]
  | .slice (some a) l c, hb => by simp only [bel, Bool.and_eq_true, blt_iff] at hb; simp [ren, h _ hb.1, h _ hb.2]
  | .slice none l c, hb => by simp only [bel, blt_iff] at hb; simp [ren, h _ hb]
  | .map (some r), hb => by simp only [bel, blt_iff] at hb; simp [ren, h _ hb]
  | .chan (some r), hb => by simp only [bel, blt_iff] at hb; simp [ren, h _ hb]
  | .func fn ⟨f⟩ ⟨c⟩, hb => by
    simp only [bel, Bool.and_eq_true] at hb
    simp [ren, renL_agree h f hb.1, renL_agree h c hb.2]
  | .iface t v, hb => by simp only [bel] at hb; simp [ren, ren_agree h v hb]
  | .agg ⟨cs⟩, hb => by simp only [bel] at hb; simp [ren, renL_agree h cs hb]
  | .tuple ⟨cs⟩, hb => by simp only [bel] at hb; simp [ren, renL_agree h cs hb]
  | .bool b, _ => rfl
  | .int k n, _ => rfl
  | .float k b, _ => rfl
  | .complex k a b, _ => rfl
  | .string s, _ => rfl
  | .pointer none, _ => rfl
  | .map none, _ => rfl
  | .chan none, _ => rfl
  | .nilFunc, _ => rfl
  | .nilIface, _ => rfl
theorem renL_agree {ρ ρ' : Nat → Nat} {n : Nat} (h : ∀ b, b < n → ρ' b = ρ b) : ∀ l, belL n l = true → renL ρ' l = renL ρ l
  | [], _ => rfl
  | v :: r, hb => by
    simp only [belL, Bool.and_eq_true] at hb
    simp [renL, ren_agree h v hb.1, renL_agree h r hb.2]
end
mutual
theorem ren_id {n : Nat} {ρ : Nat → Nat} (h : ∀ b, b < n → ρ b = b) : ∀ v, bel n v = true → ren ρ v = v
  | .pointer (some a), hb => by simp only [bel, blt_iff] at hb; simp [ren, h _ hb]
  | .slice (some a) l c, hb => by simp only [bel, Bool.and_eq_true, blt_iff] at hb; simp [ren, h _ hb.1, h _ hb.2]
  | .slice none l c, hb => by simp only [bel, blt_iff] at hb; simp [ren, h _ hb]
  | .map (some r), hb => by simp only [bel, blt_iff] at hb; simp [ren, h _ hb]
  | .chan (some r), hb => by simp only [bel, blt_iff] at hb; simp [ren, h _ hb]
  | .func fn ⟨f⟩ ⟨c⟩, hb => by
    simp only [bel, Bool.and_eq_true] at hb
    simp [ren, renL_id h f hb.1, renL_id h c hb.2]
  | .iface t v, hb => by simp only [bel] at hb; simp [ren, ren_id h v hb]
  | .agg ⟨cs⟩, hb => by simp only [bel] at hb; simp [ren, renL_id h cs hb]
  | .tuple ⟨cs⟩, hb => by simp only [bel] at hb; simp [ren, renL_id h cs hb]
  | .bool b, _ => rfl
  | .int k n, _ => rfl
  | .float k b, _ => rfl
  | .complex k a b, _ => rfl
  | .string s, _ => rfl
  | .pointer none, _ => rfl
  | .map none, _ => rfl
  | .chan none, _ => rfl
  | .nilFunc, _ => rfl
  | .nilIface, _ => rfl
theorem renL_id {n : Nat} {ρ : Nat → Nat} (h : ∀ b, b < n → ρ b = b) : ∀ l, belL n l = true → renL ρ l = l
  | [], _ => rfl
  | v :: r, hb => by
    simp only [belL, Bool.and_eq_true] at hb
    simp [renL, ren_id h v hb.1, renL_id h r hb.2]
end
mutual
theorem bel_mono {n m : Nat} (h : n ≤ m) : ∀ v, bel n v = true → bel m v = true
  | .pointer (some a), hb => by simp only [bel, blt_iff] at hb ⊢; omega
  | .slice (some a) l c, hb => by simp only [bel, Bool.and_eq_true, blt_iff] at hb ⊢; omega
  | .slice none l c, hb => by simp only [bel, blt_iff] at hb ⊢; omega
  | .map (some r), hb => by simp only [bel, blt_iff] at hb ⊢; omega
  | .chan (some r), hb => by simp only [bel, blt_iff] at hb ⊢; omega
  | .func fn ⟨f⟩ ⟨c⟩, hb => by
    simp only [bel, Bool.and_eq_true] at hb ⊢
    exact ⟨belL_mono h f hb.1, belL_mono h c hb.2⟩
  | .iface t v, hb => by simp only [bel] at hb ⊢; exact bel_mono h v hb
  | .agg ⟨cs⟩, hb => by simp only [bel] at hb ⊢; exact belL_mono h cs hb
  | .tuple ⟨cs⟩, hb => by simp only [bel] at hb ⊢; exact belL_mono h cs hb
  | .bool b, _ => rfl
  | .int k n, _ => rfl
  | .float k b, _ => rfl
  | .complex k a b, _ => rfl
  | .string s, _ => rfl
  | .pointer none, _ => rfl
  | .map none, _ => rfl
  | .chan none, _ => rfl
  | .nilFunc, _ => rfl
  | .nilIface, _ => rfl
theorem belL_mono {n m : Nat} (h : n ≤ m) : ∀ l, belL n l = true → belL m l = true
  | [], _ => rfl
  | v :: r, hb => by
    simp only [belL, Bool.and_eq_true] at hb ⊢
    exact ⟨bel_mono h v hb.1, belL_mono h r hb.2⟩
end
theorem ren_oneCell {ρ : Nat → Nat} (v : Value) : (ren ρ v).oneCell' = v.oneCell' := by
  cases v <;> first
    | rfl
    | (rename_i a b; cases a <;> rfl)
    | (rename_i a b c; cases a <;> rfl)
    | (rename_i a; cases a <;> rfl)
    | (rename_i a b c; cases b; cases c; rfl)
theorem ren_cells {ρ : Nat → Nat} (v : Value) : (ren ρ v).cells = v.cells.map (ren ρ) := by
  cases v with
  | agg cs => rw [ren_agg]; rfl
  | tuple cs => rw [ren_tuple]; simp [Value.cells, ren_tuple]
  | func fn f c => rw [ren_func]; simp [Value.cells, ren_func]
  | pointer a => cases a <;> simp [Value.cells, ren]
  | slice a l c => cases a <;> simp [Value.cells, ren]
  | map r => cases r <;> simp [Value.cells, ren]
  | chan r => cases r <;> simp [Value.cells, ren]
  | _ => simp [Value.cells, ren]
theorem bel_cells {n : Nat} {v : Value} (h : bel n v = true) : ∀ x ∈ v.cells, bel n x = true := by
  cases v with
  | agg cs => exact bel_agg.1 h
  | _ => intro x hx; simp only [Value.cells, List.mem_toArray, List.mem_singleton] at hx; subst hx; exact h

/-! ### Rows, by lists (quick for the kernel), and what they are -/
noncomputable def getL (l : List Value) : Nat → Option Value :=
  List.rec (motive := fun _ => Nat → Option Value) (fun _ => none) (fun v _ ih n => Nat.casesOn (motive := fun _ => Option Value) n (some v) ih) l
noncomputable def setL (l : List Value) : Nat → Value → List Value :=
  List.rec (motive := fun _ => Nat → Value → List Value) (fun _ _ => []) (fun x r ih n v => Nat.casesOn (motive := fun _ => List Value) n (v :: r) (fun m => x :: ih m v)) l
noncomputable def dropL (l : List Value) : Nat → List Value :=
  List.rec (motive := fun _ => Nat → List Value) (fun _ => []) (fun x r ih n => Nat.casesOn (motive := fun _ => List Value) n (x :: r) ih) l
noncomputable def takeL (l : List Value) : Nat → List Value :=
  List.rec (motive := fun _ => Nat → List Value) (fun _ => []) (fun x _ ih n => Nat.casesOn (motive := fun _ => List Value) n [] (fun m => x :: ih m)) l
noncomputable def allV (f : Value → Bool) (l : List Value) : Bool :=
  List.rec (motive := fun _ => Bool) true (fun v _ ih => Bool.casesOn (motive := fun _ => Bool) (f v) false ih) l
theorem getL_eq : ∀ (l : List Value) (i : Nat), getL l i = l[i]?
  | [], _ => by simp [getL]
  | _ :: _, 0 => rfl
  | _ :: r, i + 1 => by
    show getL r i = _
    simp [getL_eq r i]
theorem setL_eq : ∀ (l : List Value) (i : Nat) (v : Value), setL l i v = l.set i v
  | [], _, _ => rfl
  | _ :: _, 0, _ => rfl
  | x :: r, i + 1, v => by
    show x :: setL r i v = _
    simp [setL_eq r i]
theorem dropL_eq : ∀ (l : List Value) (i : Nat), dropL l i = l.drop i
  | [], _ => by simp [dropL]
  | _ :: _, 0 => rfl
  | _ :: r, i + 1 => by
    show dropL r i = _
    simp [dropL_eq r i]
theorem takeL_eq : ∀ (l : List Value) (i : Nat), takeL l i = l.take i
  | [], _ => by simp [takeL]
  | _ :: _, 0 => rfl
  | x :: r, i + 1 => by
    show x :: takeL r i = _
    simp [takeL_eq r i]
theorem allV_eq (f : Value → Bool) : ∀ l, allV f l = l.all f
  | [] => rfl
  | v :: r => by
    show Bool.casesOn (motive := fun _ => Bool) (f v) false (allV f r) = _
    rw [allV_eq f r]
    cases h : f v <;> simp [h]
noncomputable def fget (cs : Array Value) (i : Nat) : Option Value := getL cs.toList i
noncomputable def fset (cs : Array Value) (i : Nat) (v : Value) : Array Value := ⟨setL cs.toList i v⟩
noncomputable def fext (cs : Array Value) (a b : Nat) : Array Value := bif Nat.beq a 0 && Nat.beq b cs.toList.length then cs else ⟨takeL (dropL cs.toList a) (b - a)⟩
def fapp (a b : Array Value) : Array Value := ⟨a.toList ++ b.toList⟩
noncomputable def fall (p : Value → Bool) (cs : Array Value) : Bool := allV p cs.toList
theorem fget_eq (cs : Array Value) (i : Nat) : fget cs i = cs[i]? := by cases cs; simp [fget, getL_eq]
theorem fset_eq (cs : Array Value) (i : Nat) (v : Value) : fset cs i v = cs.setIfInBounds i v := by cases cs; simp [fset, setL_eq]
theorem fext_eq (cs : Array Value) (a b : Nat) : fext cs a b = cs.extract a b := by
  unfold fext
  cases h : (Nat.beq a 0 && Nat.beq b cs.toList.length)
  · cases cs; simp [takeL_eq, dropL_eq]
  · rw [Bool.and_eq_true, Nat.beq_eq, Nat.beq_eq] at h
    obtain ⟨rfl, rfl⟩ := h
    simp
theorem fapp_eq (a b : Array Value) : fapp a b = a ++ b := by cases a; cases b; simp [fapp]
theorem fall_eq (p : Value → Bool) (cs : Array Value) : fall p cs = cs.all p := by cases cs; simp [fall, allV_eq]

/-! ### Values made plain for the kernel -/
def forceN {α : Type} (n : Nat) (c : Nat → α) : α :=
  match n with
  | 0 => c 0
  | p + 1 => c (p + 1)
def forceI {α : Type} (n : Int) (c : Int → α) : α :=
  match n with
  | .ofNat m => forceN m fun m => c (.ofNat m)
  | .negSucc m => forceN m fun m => c (.negSucc m)
def forceV {α : Type} (v : Value) (c : Value → α) : α :=
  match v with
  | .int k n => forceI n fun n => c (.int k n)
  | .bool true => c (.bool true)
  | .bool false => c (.bool false)
  | .pointer (some ⟨b, o, s⟩) => forceN b fun b => forceN o fun o => c (.pointer (some ⟨b, o, s⟩))
  | .slice (some ⟨b, o, s⟩) l k => forceN b fun b => forceN o fun o => forceN l fun l => forceN k fun k => c (.slice (some ⟨b, o, s⟩) l k)
  | v => c v
noncomputable def forceL {α : Type} (l : List Value) : (List Value → α) → α :=
  List.rec (motive := fun _ => (List Value → α) → α) (fun c => c []) (fun v _ ih c => ih fun r => c (v :: r)) l
/-- The spine of a row, and its values, made plain. -/
noncomputable def forceD {α : Type} (l : List Value) : (List Value → α) → α :=
  List.rec (motive := fun _ => (List Value → α) → α) (fun c => c []) (fun v _ ih c => forceV v fun v => ih fun r => c (v :: r)) l
theorem forceN_eq {α : Type} (n : Nat) (c : Nat → α) : forceN n c = c n := by cases n <;> rfl
theorem forceI_eq {α : Type} (n : Int) (c : Int → α) : forceI n c = c n := by cases n <;> simp [forceI, forceN_eq]
theorem forceV_eq {α : Type} (v : Value) (c : Value → α) : forceV v c = c v := by
  unfold forceV; split <;> simp [forceI_eq, forceN_eq]
theorem forceL_eq {α : Type} : ∀ (l : List Value) (c : List Value → α), forceL l c = c l
  | [], _ => rfl
  | v :: r, c => by
    show forceL r (fun r => c (v :: r)) = _
    rw [forceL_eq r]
theorem forceD_eq {α : Type} : ∀ (l : List Value) (c : List Value → α), forceD l c = c l
  | [], _ => rfl
  | v :: r, c => by
    show forceV v (fun v => forceD r fun r => c (v :: r)) = _
    rw [forceV_eq, forceD_eq r]
/-- A value made plain, where that is asked. -/
noncomputable def plainV {α : Type} (fr : Bool) (v : Value) (c : Value → α) : α :=
  bif fr then
    match v with
    | .agg ⟨cs⟩ => forceD cs fun cs => c (.agg ⟨cs⟩)
    | .tuple ⟨cs⟩ => forceD cs fun cs => c (.tuple ⟨cs⟩)
    | v => forceV v c
  else c v
theorem plainV_eq {α : Type} (fr : Bool) (v : Value) (c : Value → α) : plainV fr v c = c v := by
  cases fr
  · rfl
  · simp only [plainV, cond_true]
    split
    · exact forceD_eq _ _
    · exact forceD_eq _ _
    · exact forceV_eq _ _
noncomputable def plainT {α : Type} (fr : Bool) (t : Array Value) (c : Array Value → α) : α :=
  bif fr then forceL t.toList fun l => c ⟨l⟩ else c t
theorem plainT_eq {α : Type} (fr : Bool) (t : Array Value) (c : Array Value → α) : plainT fr t c = c t := by
  cases fr
  · rfl
  · simp only [plainT, cond_true, forceL_eq]
/-- 'bel', quick at plain values. -/
noncomputable def belS (n : Nat) (v : Value) : Bool :=
  match v with
  | .int _ _ => true
  | .bool _ => true
  | v => bel n v
noncomputable def belF (n : Nat) (v : Value) : Bool :=
  match v with
  | .int _ _ => true
  | .bool _ => true
  | .agg ⟨cs⟩ => allV (belS n) cs
  | .tuple ⟨cs⟩ => allV (belS n) cs
  | v => bel n v
theorem belS_eq (n : Nat) (v : Value) : belS n v = bel n v := by
  cases v <;> rfl
theorem belF_eq (n : Nat) (v : Value) : belF n v = bel n v := by
  have hS : (belS n) = bel n := funext (belS_eq n)
  cases v with
  | agg cs => cases cs; simp only [belF, hS, bel, belL_eq, allV_eq]
  | tuple cs => cases cs; simp only [belF, hS, bel, belL_eq, allV_eq]
  | _ => rfl
theorem belF_fun (n : Nat) : belF n = bel n := funext (belF_eq n)
end Go.Den

/-
  Heaps that are known in part, how they lie in a world, and steps between worlds.
-/
namespace Go.Den
open Go.RowKit

structure ABlk where
  cells : Array Value
  T : TypeId
  op : Option Nat
  deriving Inhabited

abbrev AHeap := List (Nat × ABlk)

noncomputable def AHeap.get (h : AHeap) : Nat → Option ABlk :=
  List.rec (motive := fun _ => Nat → Option ABlk) (fun _ => none) (fun e _ ih b => Bool.casesOn (motive := fun _ => Option ABlk) (Nat.beq e.1 b) (ih b) (some e.2)) h
noncomputable def AHeap.set (h : AHeap) : Nat → ABlk → AHeap :=
  List.rec (motive := fun _ => Nat → ABlk → AHeap) (fun b B => [(b, B)]) (fun e r ih b B => Bool.casesOn (motive := fun _ => AHeap) (Nat.beq e.1 b) (e :: ih b B) ((e.1, B) :: r)) h
theorem AHeap.get_nil (b : Nat) : AHeap.get [] b = none := rfl
theorem AHeap.get_cons (i : Nat) (B : ABlk) (r : AHeap) (b : Nat) : AHeap.get ((i, B) :: r) b = if i = b then some B else AHeap.get r b := by
  show Bool.casesOn (motive := fun _ => Option ABlk) (Nat.beq i b) (AHeap.get r b) (some B) = _
  by_cases h : i = b
  · rw [nbeq_iff.2 h, if_pos h]
  · have : Nat.beq i b = false := by cases hb : Nat.beq i b with | false => rfl | true => exact absurd (nbeq_iff.1 hb) h
    rw [this, if_neg h]
theorem AHeap.set_nil (b : Nat) (B : ABlk) : AHeap.set [] b B = [(b, B)] := rfl
theorem AHeap.set_cons (i : Nat) (C : ABlk) (r : AHeap) (b : Nat) (B : ABlk) : AHeap.set ((i, C) :: r) b B = if i = b then (i, B) :: r else (i, C) :: AHeap.set r b B := by
  show Bool.casesOn (motive := fun _ => AHeap) (Nat.beq i b) ((i, C) :: AHeap.set r b B) ((i, B) :: r) = _
  by_cases h : i = b
  · rw [nbeq_iff.2 h, if_pos h]
  · have : Nat.beq i b = false := by cases hb : Nat.beq i b with | false => rfl | true => exact absurd (nbeq_iff.1 hb) h
    rw [this, if_neg h]
def AHeap.del : AHeap → Nat → AHeap
  | [], _ => []
  | (i, C) :: r, b => bif Nat.beq i b then AHeap.del r b else (i, C) :: AHeap.del r b

theorem AHeap.get_set (h : AHeap) (b c : Nat) (B : ABlk) : (h.set b B).get c = if b = c then some B else h.get c := by
  induction h with
  | nil => simp only [AHeap.set_nil, AHeap.get_cons]
  | cons e r ih =>
    obtain ⟨i, C⟩ := e
    simp only [AHeap.set_cons, AHeap.get_cons]
    by_cases h1 : i = b
    · subst h1; rw [if_pos rfl]; simp only [AHeap.get_cons]
      by_cases h2 : i = c
      · simp [h2]
      · simp [h2]
    · rw [if_neg h1]; simp only [AHeap.get_cons, ih]
      by_cases h2 : i = c
      · subst h2; simp [Ne.symm h1]
      · simp [h2]
theorem AHeap.get_del (h : AHeap) (b c : Nat) : (h.del b).get c = if b = c then none else h.get c := by
  induction h with
  | nil => simp [AHeap.del, AHeap.get_nil]
  | cons e r ih =>
    obtain ⟨i, C⟩ := e
    simp only [AHeap.del, AHeap.get_cons, cond_eq_ite, Nat.beq_eq]
    by_cases h1 : i = b
    · subst h1; rw [if_pos rfl, ih]; by_cases h2 : i = c <;> simp [h2]
    · rw [if_neg h1]; simp only [AHeap.get_cons, ih]
      by_cases h2 : i = c
      · subst h2; simp [Ne.symm h1]
      · simp [h2]
theorem AHeap.get_append (h u : AHeap) (c : Nat) : (h ++ u : AHeap).get c = (h.get c).or (u.get c) := by
  induction h with
  | nil => simp [AHeap.get_nil]
  | cons e r ih =>
    obtain ⟨i, C⟩ := e
    simp only [List.cons_append, AHeap.get_cons]
    by_cases h1 : i = c
    · simp [h1]
    · simp [h1, ih]

def B0 : Nat := 1099511627776

/-- Block c of w holds what B tells. -/
def BlkAt (ρ : Nat → Nat) (w : World) (c : Nat) (B : ABlk) : Prop :=
  ∃ junk : Array Value, w.heap[c]? = some (.cells (B.cells.map (ren ρ) ++ junk) B.T (0, 0)) ∧
    match B.op with
    | none => junk = #[]
    | some k => B.cells.size + junk.size = ρ k
/-- What a block tells has names below n. -/
def BBel (n : Nat) (B : ABlk) : Prop := (∀ v ∈ B.cells, bel n v = true) ∧ ∀ k, B.op = some k → k < n

theorem BlkAt.agree {ρ ρ' : Nat → Nat} {n : Nat} {w : World} {c : Nat} {B : ABlk} (h : ∀ b, b < n → ρ' b = ρ b) (hb : BBel n B) (hB : BlkAt ρ w c B) : BlkAt ρ' w c B := by
  obtain ⟨junk, h1, h2⟩ := hB
  have he : B.cells.map (ren ρ') = B.cells.map (ren ρ) := Array.map_congr_left fun v hv => ren_agree h v (hb.1 v hv)
  refine ⟨junk, by rw [he]; exact h1, ?_⟩
  cases ho : B.op with
  | none => rw [ho] at h2; exact h2
  | some k => rw [ho] at h2; simp only at h2 ⊢; rw [h k (hb.2 k ho)]; exact h2
theorem BlkAt.keep {ρ : Nat → Nat} {w w' : World} {c : Nat} {B : ABlk} (h : w'.heap[c]? = w.heap[c]?) (hB : BlkAt ρ w c B) : BlkAt ρ w' c B := by
  obtain ⟨junk, h1, h2⟩ := hB; exact ⟨junk, h.trans h1, h2⟩
theorem BlkAt.lt {ρ : Nat → Nat} {w : World} {c : Nat} {B : ABlk} (hB : BlkAt ρ w c B) : c < w.heap.size := by
  obtain ⟨junk, h1, _⟩ := hB; exact (Array.getElem?_eq_some_iff.1 h1).1
theorem BBel.mono {n m : Nat} {B : ABlk} (h : n ≤ m) (hb : BBel n B) : BBel m B :=
  ⟨fun v hv => bel_mono h v (hb.1 v hv), fun k hk => Nat.lt_of_lt_of_le (hb.2 k hk) h⟩

/-- The world in which all began: its blocks stand as they stood. -/
structure Root where
  W : World
instance trivRoot : Inhabited Root := ⟨⟨{ heap := #[], tape := fun _ _ => 0, drawn := 0, os := default, output := #[] }⟩⟩
section
variable [Inhabited Root]
def rootW : World := (default : Root).W
def Held (w : World) : Prop := ∀ c, c < rootW.heap.size → w.heap[c]? = rootW.heap[c]?
theorem Held.size {w : World} (h : Held w) : rootW.heap.size ≤ w.heap.size := by
  rcases Nat.eq_zero_or_pos rootW.heap.size with h0 | h0
  · omega
  · have h1 := h (rootW.heap.size - 1) (by omega)
    have h2 : rootW.heap[rootW.heap.size - 1]? = some _ := Array.getElem?_eq_getElem (by omega)
    rw [h2] at h1
    have := (Array.getElem?_eq_some_iff.1 h1).1
    omega
theorem Held.keep {w w' : World} (h : Held w) (hk : ∀ c, c < w.heap.size → w'.heap[c]? = w.heap[c]?) : Held w' :=
  fun c hc => (hk c (Nat.lt_of_lt_of_le hc h.size)).trans (h c hc)
theorem Held.below {w w' : World} (h : Held w) (hb : Below w.heap.size w w') : Held w' := h.keep fun c hc => hb.block c hc
end
/-- An argument's cells, as they stand from the beginning: its block's name, the place of the first one, and they. -/
structure Arg where
  name : Nat
  off : Nat
  cells : List Value
/-- Names that keep their places, and arguments among them. -/
structure Names [Inhabited Root] where
  n : Nat
  ρ : Nat → Nat
  args : List Arg
  ok : ∀ A ∈ args, A.name < n ∧ ∀ (j : Nat) v, A.cells[j]? = some v → rootW.cell? ⟨ρ A.name, A.off + j, none⟩ = some v
instance trivNames [Inhabited Root] : Inhabited Names := ⟨⟨0, id, [], fun A h => by cases h⟩⟩
theorem held_triv (w : World) : @Held trivRoot w := fun c hc => by simp [rootW, default] at hc
theorem Held.own (w : World) : @Held ⟨⟨w⟩⟩ w := fun _ _ => rfl
set_option linter.unusedSectionVars false
variable [Inhabited Root] [Inhabited Names]
/-- The known parts g (only read) and h lie in the world w; names are below nx. -/
structure Rel (ρ : Nat → Nat) (g h : AHeap) (nx : Nat) (w : World) : Prop where
  low : ∀ b, b < B0 → ρ b = b
  base : B0 ≤ nx
  gat : ∀ b B, g.get b = some B → BlkAt ρ w (ρ b) B
  hat : ∀ b B, h.get b = some B → BlkAt ρ w (ρ b) B
  inj : ∀ b b' B B', h.get b = some B → h.get b' = some B' → ρ b = ρ b' → b = b'
  dis : ∀ b b' B B', h.get b = some B → g.get b' = some B' → ρ b ≠ ρ b'
  lt : ∀ b B, h.get b = some B → B0 ≤ b ∧ b < nx
  glt : ∀ b B, g.get b = some B → b < nx
  hbel : ∀ b B, h.get b = some B → BBel nx B
  gbel : ∀ b B, g.get b = some B → BBel nx B
  held : Held w
  fix : ∀ b, b < (default : Names).n → ρ b = (default : Names).ρ b
  nroot : (default : Names).n ≤ nx
  far : ∀ b B, h.get b = some B → rootW.heap.size ≤ ρ b

noncomputable def argGo : List Arg → Nat → Option Arg :=
  List.rec (motive := fun _ => Nat → Option Arg) (fun _ => none) (fun e _ ih b => Bool.casesOn (motive := fun _ => Option Arg) (Nat.beq e.name b) (ih b) (some e))
theorem argGo_mem : ∀ {l : List Arg} {b : Nat} {A : Arg}, argGo l b = some A → A ∈ l ∧ A.name = b
  | [], _, _, h => by cases h
  | e :: r, b, A, h => by
    change Bool.casesOn (motive := fun _ => Option Arg) (Nat.beq e.name b) (argGo r b) (some e) = some A at h
    cases hb : Nat.beq e.name b
    · rw [hb] at h
      obtain ⟨h1, h2⟩ := argGo_mem h
      exact ⟨List.mem_cons_of_mem _ h1, h2⟩
    · rw [hb] at h
      cases h
      exact ⟨List.mem_cons_self, nbeq_iff.1 hb⟩
noncomputable def argOf (b : Nat) : Option Arg := argGo (default : Names).args b
theorem Rel.arg {ρ : Nat → Nat} {g h : AHeap} {nx : Nat} {w : World} (R : Rel ρ g h nx w) {b : Nat} {A : Arg} (ha : argOf b = some A) :
    b < nx ∧ ∀ (j : Nat) v, A.cells[j]? = some v → w.cell? ⟨ρ b, A.off + j, none⟩ = some v := by
  obtain ⟨h1, h2⟩ := argGo_mem ha
  obtain ⟨h3, h4⟩ := (default : Names).ok A h1
  subst h2
  refine ⟨Nat.lt_of_lt_of_le h3 R.nroot, fun j v hv => ?_⟩
  have h5 := h4 j v hv
  rw [R.fix _ h3]
  have hlt : (default : Names).ρ A.name < rootW.heap.size := World.block_lt_of_cell? _ _ h5
  rw [← h5]
  exact World.cell?_of_block (R.held _ hlt)
theorem Rel.start {ρ : Nat → Nat} {nx : Nat} {w : World} (hl : ∀ b, b < B0 → ρ b = b) (hb : B0 ≤ nx) (hw : Held w) (hf : ∀ b, b < (default : Names).n → ρ b = (default : Names).ρ b) (hn : (default : Names).n ≤ nx) : Rel ρ [] [] nx w :=
  ⟨hl, hb, fun b B h => (by cases h), fun b B h => (by cases h), fun b b' B B' h => (by cases h), fun b b' B B' h => (by cases h), fun b B h => (by cases h), fun b B h => (by cases h), fun b B h => (by cases h), fun b B h => (by cases h), hw, hf, hn, fun b B h => (by cases h)⟩
theorem Rel.initK {w : World} (hw : Held w) : @Rel _ trivNames id [] [] B0 w :=
  @Rel.start _ trivNames id B0 w (fun _ _ => rfl) (Nat.le_refl _) hw (fun b hb => absurd hb (Nat.not_lt_zero b)) (Nat.zero_le _)
theorem Rel.init (w : World) : @Rel trivRoot (@trivNames trivRoot) id [] [] B0 w := @Rel.initK trivRoot (@trivNames trivRoot) w (held_triv w)
/-- From w to w': what is neither h's nor new stands as it was; names that were keep their places. -/
structure Step (ρ : Nat → Nat) (h : AHeap) (nx : Nat) (w : World) (ρ' : Nat → Nat) (h' : AHeap) (nx' : Nat) (w' : World) : Prop where
  le : nx ≤ nx'
  agree : ∀ b, b < nx → ρ' b = ρ b
  old : ∀ b B, h'.get b = some B → b < nx → ∃ C, h.get b = some C
  new : ∀ b B, h'.get b = some B → nx ≤ b → w.heap.size ≤ ρ' b
  size : w.heap.size ≤ w'.heap.size
  os : w'.os = w.os
  tape : w'.tape = w.tape
  output : w'.output = w.output
  keep : ∀ c, c < w.heap.size → (∀ b B, h.get b = some B → ρ b ≠ c) → w'.heap[c]? = w.heap[c]?

theorem Step.refl (ρ : Nat → Nat) (h : AHeap) (nx : Nat) (w : World) (hlt : ∀ b B, h.get b = some B → b < nx) : Step ρ h nx w ρ h nx w :=
  ⟨Nat.le_refl _, fun _ _ => rfl, fun b B hb _ => ⟨B, hb⟩, fun b B hb hn => absurd (hlt b B hb) (by omega), Nat.le_refl _, rfl, rfl, rfl, fun _ _ _ => rfl⟩

theorem Step.trans {ρ1 ρ2 ρ3 : Nat → Nat} {h1 h2 h3 : AHeap} {n1 n2 n3 : Nat} {w1 w2 w3 : World}
    (a : Step ρ1 h1 n1 w1 ρ2 h2 n2 w2) (b : Step ρ2 h2 n2 w2 ρ3 h3 n3 w3) : Step ρ1 h1 n1 w1 ρ3 h3 n3 w3 where
  le := Nat.le_trans a.le b.le
  agree := fun c hc => (b.agree c (Nat.lt_of_lt_of_le hc a.le)).trans (a.agree c hc)
  old := fun c C hc hn => by
    obtain ⟨D, hD⟩ := b.old c C hc (Nat.lt_of_lt_of_le hn a.le)
    exact a.old c D hD hn
  new := fun c C hc hn => by
    by_cases h : c < n2
    · obtain ⟨D, hD⟩ := b.old c C hc h
      rw [b.agree c h]; exact a.new c D hD hn
    · exact Nat.le_trans a.size (b.new c C hc (by omega))
  size := Nat.le_trans a.size b.size
  os := b.os.trans a.os
  tape := b.tape.trans a.tape
  output := b.output.trans a.output
  keep := fun c hc hno => by
    refine (b.keep c (Nat.lt_of_lt_of_le hc a.size) fun d D hd he => ?_).trans (a.keep c hc hno)
    by_cases h : d < n1
    · obtain ⟨E, hE⟩ : ∃ E, h1.get d = some E := a.old d D hd h
      exact hno d E hE (by rw [← a.agree d h]; exact he)
    · have := a.new d D hd (by omega); omega

theorem Rel.drew {ρ : Nat → Nat} {g h : AHeap} {nx : Nat} {w : World} (r : Rel ρ g h nx w) : Rel ρ g h nx w.drew :=
  { r with gat := fun b B hb => (r.gat b B hb).keep rfl, hat := fun b B hb => (r.hat b B hb).keep rfl }
theorem Step.drew {ρ ρ' : Nat → Nat} {h h' : AHeap} {nx nx' : Nat} {w w' : World} (s : Step ρ h nx w.drew ρ' h' nx' w') : Step ρ h nx w ρ' h' nx' w' :=
  ⟨s.le, s.agree, s.old, s.new, s.size, s.os, s.tape, s.output, s.keep⟩

/-- Fewer blocks known. -/
theorem Rel.sub {ρ : Nat → Nat} {g g' h h' : AHeap} {nx : Nat} {w : World} (r : Rel ρ g h nx w)
    (hh : ∀ b B, h'.get b = some B → h.get b = some B) (hg : ∀ b B, g'.get b = some B → g.get b = some B) : Rel ρ g' h' nx w :=
  { r with
    gat := fun b B hb => r.gat b B (hg b B hb)
    hat := fun b B hb => r.hat b B (hh b B hb)
    inj := fun b b' B B' h1 h2 => r.inj b b' B B' (hh _ _ h1) (hh _ _ h2)
    dis := fun b b' B B' h1 h2 => r.dis b b' B B' (hh _ _ h1) (hg _ _ h2)
    lt := fun b B hb => r.lt b B (hh b B hb)
    glt := fun b B hb => r.glt b B (hg b B hb)
    hbel := fun b B hb => r.hbel b B (hh b B hb)
    gbel := fun b B hb => r.gbel b B (hg b B hb)
    far := fun b B hb => r.far b B (hh b B hb) }

/-- A new block: its name, and (if it is asked) the name of its cap. -/
def upd (ρ : Nat → Nat) (n x : Nat) : Nat → Nat := fun b => if b = n then x else ρ b
theorem upd_same (ρ : Nat → Nat) (n x : Nat) : upd ρ n x n = x := by simp [upd]
theorem upd_other {ρ : Nat → Nat} {n x b : Nat} (h : b ≠ n) : upd ρ n x b = ρ b := by simp [upd, h]
theorem upd_agree (ρ : Nat → Nat) (n x : Nat) : ∀ b, b < n → upd ρ n x b = ρ b := fun b h => upd_other (by omega)

theorem Rel.alloc {ρ : Nat → Nat} {g h : AHeap} {nx : Nat} {w : World} (r : Rel ρ g h nx w) (cs : Array Value) (T : TypeId) (hb : ∀ v ∈ cs, bel nx v = true) :
    Rel (upd ρ nx w.heap.size) g (h.set nx ⟨cs, T, none⟩) (nx + 1) (w.alloc (.cells (cs.map (ren ρ)) T)) ∧
    Step ρ h nx w (upd ρ nx w.heap.size) (h.set nx ⟨cs, T, none⟩) (nx + 1) (w.alloc (.cells (cs.map (ren ρ)) T)) := by
  have hag := upd_agree ρ nx w.heap.size
  have hold : ∀ c, c < w.heap.size → (w.alloc (.cells (cs.map (ren ρ)) T)).heap[c]? = w.heap[c]? := fun c hc => Below.heap_alloc _ _ _ hc
  have hnew : (w.alloc (.cells (cs.map (ren ρ)) T)).heap[w.heap.size]? = some (.cells (cs.map (ren ρ)) T (0, 0)) := heap_alloc_new w _
  have hcs : cs.map (ren (upd ρ nx w.heap.size)) = cs.map (ren ρ) := Array.map_congr_left fun v hv => ren_agree hag v (hb v hv)
  have key : ∀ b B, (h.set nx ⟨cs, T, none⟩).get b = some B → (b = nx ∧ B = ⟨cs, T, none⟩) ∨ (b ≠ nx ∧ h.get b = some B) := by
    intro b B hB
    rw [AHeap.get_set] at hB
    by_cases hn : nx = b
    · rw [if_pos hn] at hB; exact .inl ⟨hn.symm, (Option.some.inj hB).symm⟩
    · rw [if_neg hn] at hB; exact .inr ⟨Ne.symm hn, hB⟩
  refine ⟨⟨fun b hb0 => ?_, ?_, fun b B hB => ?_, fun b B hB => ?_, fun b b' B B' h1 h2 he => ?_, fun b b' B B' h1 h2 => ?_, fun b B hB => ?_, fun b B hB => ?_, fun b B hB => ?_, fun b B hB => ?_, r.held.keep hold, fun b hb => ?_, Nat.le_succ_of_le r.nroot, fun b B hB => ?_⟩,
    ⟨?_, hag, fun b B hB hn => ?_, fun b B hB hn => ?_, ?_, rfl, rfl, rfl, fun c hc _ => hold c hc⟩⟩
  · have := r.base; rw [upd_other (by omega)]; exact r.low b hb0
  · have := r.base; omega
  · have h1 := r.gat b B hB
    rw [upd_other (by have := r.glt b B hB; omega)]
    exact (h1.agree hag (r.gbel b B hB)).keep (hold _ h1.lt)
  · rcases key b B hB with ⟨rfl, rfl⟩ | ⟨hne, hB'⟩
    · rw [upd_same]; exact ⟨#[], by rw [hcs]; simpa using hnew, rfl⟩
    · rw [upd_other hne]
      have h1 := r.hat b B hB'
      exact (h1.agree hag (r.hbel b B hB')).keep (hold _ h1.lt)
  · rcases key b B h1 with ⟨rfl, rfl⟩ | ⟨hne, h1'⟩ <;> rcases key b' B' h2 with ⟨rfl, rfl⟩ | ⟨hne', h2'⟩
    · rfl
    · rw [upd_same, upd_other hne'] at he; have := (r.hat b' B' h2').lt; omega
    · rw [upd_same, upd_other hne] at he; have := (r.hat b B h1').lt; omega
    · rw [upd_other hne, upd_other hne'] at he; exact r.inj b b' B B' h1' h2' he
  · rw [upd_other (b := b') (by have := r.glt b' B' h2; omega)]
    rcases key b B h1 with ⟨rfl, rfl⟩ | ⟨hne, h1'⟩
    · rw [upd_same]; have := (r.gat b' B' h2).lt; omega
    · rw [upd_other hne]; exact r.dis b b' B B' h1' h2
  · rcases key b B hB with ⟨rfl, rfl⟩ | ⟨hne, hB'⟩
    · have := r.base; omega
    · have := r.lt b B hB'; omega
  · have := r.glt b B hB; omega
  · rcases key b B hB with ⟨rfl, rfl⟩ | ⟨hne, hB'⟩
    · exact ⟨fun v hv => bel_mono (by omega) v (hb v hv), fun k hk => by cases hk⟩
    · exact (r.hbel b B hB').mono (by omega)
  · exact (r.gbel b B hB).mono (by omega)
  · have := r.nroot; rw [upd_other (by omega)]; exact r.fix b hb
  · rcases key b B hB with ⟨rfl, rfl⟩ | ⟨hne, hB'⟩
    · rw [upd_same]; exact r.held.size
    · rw [upd_other hne]; exact r.far b B hB'
  · omega
  · rcases key b B hB with ⟨rfl, rfl⟩ | ⟨hne, hB'⟩
    · omega
    · exact ⟨B, hB'⟩
  · rcases key b B hB with ⟨rfl, rfl⟩ | ⟨hne, hB'⟩
    · rw [upd_same]; exact Nat.le_refl _
    · have := (r.lt b B hB').2; omega
  · simp

/-- Cells written one by one. -/
def wr : Array Value → Nat → List Value → Array Value
  | cs, _, [] => cs
  | cs, o, v :: r => wr (cs.setIfInBounds o v) (o + 1) r
theorem wr_size : ∀ (vs : List Value) (cs : Array Value) (o : Nat), (wr cs o vs).size = cs.size
  | [], _, _ => rfl
  | v :: r, cs, o => by rw [wr, wr_size r]; simp
theorem wr_map (f : Value → Value) : ∀ (vs : List Value) (cs : Array Value) (o : Nat), (wr cs o vs).map f = wr (cs.map f) o (vs.map f)
  | [], _, _ => rfl
  | v :: r, cs, o => by rw [wr, wr_map f r, List.map_cons, wr, Array.map_setIfInBounds]
theorem wr_append (js : Array Value) : ∀ (vs : List Value) (cs : Array Value) (o : Nat), o + vs.length ≤ cs.size → wr cs o vs ++ js = wr (cs ++ js) o vs
  | [], _, _, _ => rfl
  | v :: r, cs, o, h => by
    simp only [List.length_cons] at h
    rw [wr, wr, wr_append js r _ _ (by simp; omega)]
    congr 1
    apply Array.ext_getElem?
    intro i
    simp only [Array.getElem?_append, Array.getElem?_setIfInBounds, Array.size_setIfInBounds, Array.size_append]
    by_cases h1 : i < cs.size
    · simp only [h1, if_true]
      by_cases h2 : o = i
      · subst h2; simp [h1, show o < cs.size + js.size by omega]
      · simp [h2]
    · simp only [h1, if_false]
      by_cases h2 : o = i
      · omega
      · simp [h2]
theorem wr_bel {n : Nat} : ∀ (vs : List Value) (cs : Array Value) (o : Nat), (∀ v ∈ cs, bel n v = true) → (∀ v ∈ vs, bel n v = true) → ∀ v ∈ wr cs o vs, bel n v = true
  | [], _, _, h, _ => h
  | v :: r, cs, o, h, hv => by
    refine wr_bel r _ _ (fun x hx => ?_) (fun x hx => hv x (List.mem_cons_of_mem _ hx))
    rcases Array.mem_or_eq_of_mem_setIfInBounds hx with h1 | h1
    · exact h x h1
    · rw [h1]; exact hv v List.mem_cons_self
theorem heap_setCells_same (b : Nat) (T : TypeId) : ∀ (vs : List Value) (o : Nat) (w : World) (cs : Array Value), w.heap[b]? = some (.cells cs T (0, 0)) → (w.setCells b o vs).heap[b]? = some (.cells (wr cs o vs) T (0, 0))
  | [], _, _, _, h => h
  | v :: r, o, w, cs, h => heap_setCells_same b T r (o + 1) _ _ (heap_setCell_same w b o cs T v h)
theorem heap_setCells_other (b c : Nat) (hne : c ≠ b) : ∀ (vs : List Value) (o : Nat) (w : World), (w.setCells b o vs).heap[c]? = w.heap[c]?
  | [], _, _ => rfl
  | v :: r, o, w => (heap_setCells_other b c hne r (o + 1) _).trans (heap_setCell_other w ⟨b, o, none⟩ c v hne)
theorem setCells_more (b : Nat) : ∀ (vs : List Value) (o : Nat) (w : World), (w.setCells b o vs).heap.size = w.heap.size ∧ (w.setCells b o vs).os = w.os ∧ (w.setCells b o vs).tape = w.tape ∧ (w.setCells b o vs).output = w.output
  | [], _, _ => ⟨rfl, rfl, rfl, rfl⟩
  | v :: r, o, w => by
    obtain ⟨h1, h2, h3, h4⟩ := setCells_more b r (o + 1) (w.setCell ⟨b, o, none⟩ v)
    exact ⟨h1.trans (by simp [World.setCell]), h2, h3, h4⟩

theorem Rel.write {ρ : Nat → Nat} {g h : AHeap} {nx : Nat} {w : World} (r : Rel ρ g h nx w) {b : Nat} {B : ABlk} (hb : h.get b = some B) (o : Nat) (vs : List Value)
    (hlen : o + vs.length ≤ B.cells.size) (hv : ∀ v ∈ vs, bel nx v = true) :
    Rel ρ g (h.set b { B with cells := wr B.cells o vs }) nx (w.setCells (ρ b) o (vs.map (ren ρ))) ∧
    Step ρ h nx w ρ (h.set b { B with cells := wr B.cells o vs }) nx (w.setCells (ρ b) o (vs.map (ren ρ))) := by
  have key : ∀ c C, (h.set b { B with cells := wr B.cells o vs }).get c = some C → (c = b ∧ C = { B with cells := wr B.cells o vs }) ∨ (c ≠ b ∧ h.get c = some C) := by
    intro c C hC
    rw [AHeap.get_set] at hC
    by_cases hn : b = c
    · rw [if_pos hn] at hC; exact .inl ⟨hn.symm, (Option.some.inj hC).symm⟩
    · rw [if_neg hn] at hC; exact .inr ⟨Ne.symm hn, hC⟩
  have hoth : ∀ c, c ≠ ρ b → (w.setCells (ρ b) o (vs.map (ren ρ))).heap[c]? = w.heap[c]? := fun c hc => heap_setCells_other _ _ hc _ _ _
  have hex : ∀ c C, (h.set b { B with cells := wr B.cells o vs }).get c = some C → ∃ D, h.get c = some D := by
    intro c C hC; rcases key c C hC with ⟨rfl, rfl⟩ | ⟨_, h'⟩
    · exact ⟨B, hb⟩
    · exact ⟨C, h'⟩
  obtain ⟨m1, m2, m3, m4⟩ := setCells_more (ρ b) (vs.map (ren ρ)) o w
  refine ⟨⟨r.low, r.base, fun c C hC => ?_, fun c C hC => ?_, fun c c' C C' h1 h2 he => ?_, fun c c' C C' h1 h2 => ?_, fun c C hC => ?_, r.glt, fun c C hC => ?_, r.gbel, fun c hc => (hoth c fun e => ?_).trans (r.held c hc), r.fix, r.nroot, fun c C hC => ?_⟩,
    ⟨Nat.le_refl _, fun _ _ => rfl, fun c C hC _ => hex c C hC, fun c C hC hn => ?_, Nat.le_of_eq m1.symm, m2, m3, m4, fun c hc hno => hoth c fun e => hno b B hb e.symm⟩⟩
  · exact (r.gat c C hC).keep (hoth _ fun e => r.dis b c B C hb hC e.symm)
  · rcases key c C hC with ⟨rfl, rfl⟩ | ⟨hne, hC'⟩
    · obtain ⟨junk, h1, h2⟩ := r.hat c B hb
      refine ⟨junk, ?_, ?_⟩
      · rw [heap_setCells_same _ _ _ _ _ _ h1, wr_map, wr_append _ _ _ _ (by simpa using hlen)]
      · cases ho : B.op with
        | none => rw [ho] at h2; simpa [ho] using h2
        | some k => rw [ho] at h2; simp only [wr_size]; exact h2
    · exact (r.hat c C hC').keep (hoth _ fun e => hne (r.inj c b C B hC' hb e))
  · obtain ⟨D, hD⟩ := hex c C h1; obtain ⟨D', hD'⟩ := hex c' C' h2
    exact r.inj c c' D D' hD hD' he
  · obtain ⟨D, hD⟩ := hex c C h1
    exact r.dis c c' D C' hD h2
  · obtain ⟨D, hD⟩ := hex c C hC; exact r.lt c D hD
  · rcases key c C hC with ⟨rfl, rfl⟩ | ⟨hne, hC'⟩
    · have := r.hbel c B hb
      exact ⟨wr_bel _ _ _ this.1 hv, this.2⟩
    · exact r.hbel c C hC'
  · have := r.far b B hb; omega
  · obtain ⟨D, hD⟩ := hex c C hC; exact r.far c D hD
  · obtain ⟨D, hD⟩ := hex c C hC; have := (r.lt c D hD).2; omega

/-- The same by lists. -/
noncomputable def wrL (l : List Value) (o : Nat) (vs : List Value) : List Value :=
  List.rec (motive := fun _ => List Value → Nat → List Value) (fun l _ => l) (fun v _ ih l o => ih (setL l o v) (o + 1)) vs l o
theorem wrL_eq : ∀ (vs l : List Value) (o : Nat), (⟨wrL l o vs⟩ : Array Value) = wr ⟨l⟩ o vs
  | [], _, _ => rfl
  | v :: r, l, o => by
    show (⟨wrL (setL l o v) (o + 1) r⟩ : Array Value) = _
    rw [wrL_eq r, wr]; congr 1; simp [setL_eq]
theorem wrL_arr (cs : Array Value) (o : Nat) (vs : List Value) : (⟨wrL cs.toList o vs⟩ : Array Value) = wr cs o vs := wrL_eq vs cs.toList o
theorem wr_full : ∀ (vs l p : List Value), l.length = vs.length → wr ⟨p ++ l⟩ p.length vs = ⟨p ++ vs⟩
  | [], l, p, h => by rw [List.length_eq_zero_iff.1 h]; rfl
  | v :: r, [], p, h => by simp at h
  | v :: r, x :: l, p, h => by
    rw [wr]
    have e1 : (⟨p ++ x :: l⟩ : Array Value).setIfInBounds p.length v = ⟨(p ++ [v]) ++ l⟩ := by
      simp only [List.setIfInBounds_toArray]
      congr 1
      rw [List.set_append_right _ _ (Nat.le_refl _), Nat.sub_self]
      simp
    rw [e1]
    have := wr_full r l (p ++ [v]) (by simpa using h)
    simp only [List.length_append, List.length_cons, List.length_nil, Nat.zero_add] at this
    rw [this]; simp
/-- Where all is written anew, it is what is written. -/
noncomputable def wrF (l : List Value) (o : Nat) (vs : List Value) : List Value := bif Nat.beq o 0 && Nat.beq vs.length l.length then vs else wrL l o vs
theorem wrF_arr (cs : Array Value) (o : Nat) (vs : List Value) : (⟨wrF cs.toList o vs⟩ : Array Value) = wr cs o vs := by
  unfold wrF
  cases h : (Nat.beq o 0 && Nat.beq vs.length cs.toList.length)
  · exact wrL_arr cs o vs
  · rw [Bool.and_eq_true, Nat.beq_eq, Nat.beq_eq] at h
    obtain ⟨rfl, h2⟩ := h
    exact (wr_full vs cs.toList [] h2.symm).symm
noncomputable def forceH {α : Type} (h : AHeap) : (AHeap → α) → α :=
  List.rec (motive := fun _ => (AHeap → α) → α) (fun c => c []) (fun e _ ih c => ih fun r => c (e :: r)) h
theorem forceH_eq {α : Type} : ∀ (h : AHeap) (c : AHeap → α), forceH h c = c h
  | [], _ => rfl
  | (i, B) :: r, c => by
    show forceH r (fun r => c ((i, B) :: r)) = _
    rw [forceH_eq r]
noncomputable def plainH {α : Type} (fr : Bool) (h : AHeap) (c : AHeap → α) : α := bif fr then forceH h c else c h
theorem plainH_eq {α : Type} (fr : Bool) (h : AHeap) (c : AHeap → α) : plainH fr h c = c h := by
  cases fr
  · rfl
  · simp only [plainH, cond_true, forceH_eq]
end Go.Den

/-
  The operations, read deterministically over heaps that are known in part.
-/
namespace Go.Den
open Go.RowKit
noncomputable section

def opndOk : Operand → Bool
  | .const v => belF B0 v
  | .global g => Nat.blt g B0
  | _ => true
def sizeO (P : Program) (t : TypeId) : Option Nat := (P.info? t).map (·.size)

structure ARes where
  ok : Bool
  v : Value
  h : AHeap
  nx : Nat

/-- Where a block is told: among those that may be written, or among those that are only read. -/
def look (g h : AHeap) (b : Nat) : Option ABlk := (h.get b).or (g.get b)

def partA (P : Program) (t : TypeId) (cs : Array Value) (off : Nat) : Option Value :=
  match P.underlying t, sizeO P t with
  | some d, some n => bif d.isRow then some (.agg (fext cs off (off + n))) else fget cs off
  | _, _ => none
def aload (P : Program) (g h : AHeap) (t : TypeId) (a : Addr) : Option Value :=
  match a.spot, look g h a.block, P.underlying t, sizeO P t with
  | none, some B, some d, some n =>
    bif d.isRow then (bif Nat.ble (a.off + n) B.cells.size then some (.agg (fext B.cells a.off (a.off + n))) else none) else fget B.cells a.off
  | _, _, _, _ => none
def astore (P : Program) (h : AHeap) (t : TypeId) (a : Addr) (v : Value) : Option AHeap :=
  match a.spot, h.get a.block, sizeO P t with
  | none, some B, some n =>
    bif Nat.beq v.cells.size n && Nat.ble (a.off + n) B.cells.size && fall (·.oneCell') v.cells then some (h.set a.block { B with cells := ⟨wrF B.cells.toList a.off v.cells.toList⟩ }) else none
  | _, _, _ => none

/-- Equality of values without addresses. -/
def eqFieldsA (P : Program) (eq : TypeId → Value → Value → Option Bool) (xs ys : Array Value) : List Field → Option Bool
  | [] => some true
  | f :: fs =>
    if f.name ≠ "_" then
      match partA P f.type xs f.offset, partA P f.type ys f.offset with
      | some a, some b =>
        match eq f.type a b, eqFieldsA P eq xs ys fs with
        | some r, some s => some (r && s)
        | _, _ => none
      | _, _ => none
    else eqFieldsA P eq xs ys fs
/-- Elements, one behind the other. -/
def eqItemsA (P : Program) (eq : TypeId → Value → Value → Option Bool) (e : TypeId) (c : Nat) (xs ys : Array Value) : Nat → Nat → Option Bool
  | 0, _ => some true
  | k + 1, i =>
    match partA P e xs (i * c), partA P e ys (i * c) with
    | some a, some b =>
      match eq e a b, eqItemsA P eq e c xs ys k (i + 1) with
      | some r, some s => some (r && s)
      | _, _ => none
    | _, _ => none
def eqA (P : Program) (so : TypeId → Bool) : Nat → TypeId → Value → Value → Option Bool
  | 0, _, _, _ => none
  | d + 1, t, x, y =>
    match P.underlying t, x, y with
    | some .bool, .bool a, .bool b => some (a == b)
    | some (.int _), .int k a, .int k' b => if k = k' then some (a == b) else none
    | some .string, .string a, .string b => some (a.toList == b.toList)
    | some (.pointer _), .pointer none, .pointer b => some b.isNone
    | some (.pointer _), .pointer (some _), .pointer none => some false
    | some (.struct fields), .agg xs, .agg ys => bif so t then eqFieldsA P (eqA P so d) xs ys fields.toList else none
    | some (.array n e), .agg xs, .agg ys => bif so t then (match P.info? e with
      | some i => eqItemsA P (eqA P so d) e i.size xs ys n 0
      | none => none) else none
    | some (.slice _), .slice none _ _, .slice b _ _ => some b.isNone
    | some (.slice _), .slice (some _) _ _, .slice none _ _ => some false
    | some (.func _ _ _), .nilFunc, .nilFunc => some true
    | some (.func _ _ _), .nilFunc, .func _ _ _ => some false
    | some (.func _ _ _), .func _ _ _, .nilFunc => some false
    | some (.interface _), .nilIface, .iface _ _ => some false
    | some (.interface _), .iface _ _, .nilIface => some false
    | some (.map _ _), .map none, .map b => some b.isNone
    | some (.map _ _), .map (some _), .map none => some false
    | _, _, _ => none

def binA (P : Program) (so : TypeId → Bool) (op : BinOp) (t : TypeId) (x y : Value) : Option (Bool × Value) :=
  match x, y with
  | .int k a, .int k' b =>
    match op with
    | .shl => some (decide (0 ≤ b), .int k (k.wrap (a * 2 ^ (min b.toNat k.bits))))
    | .shr => some (decide (0 ≤ b), .int k (a.fdiv (2 ^ (min b.toNat k.bits))))
    | _ => if k = k' then
      match op with
      | .add => some (true, .int k (k.wrap (a + b)))
      | .sub => some (true, .int k (k.wrap (a - b)))
      | .mul => some (true, .int k (k.wrap (a * b)))
      | .quo => some (!(b == 0), .int k (k.wrap (a.tdiv b)))
      | .rem => some (!(b == 0), .int k (a.tmod b))
      | .and => some (true, .int k (k.wrap (BitVec.ofInt k.bits a &&& BitVec.ofInt k.bits b).toNat))
      | .or => some (true, .int k (k.wrap (BitVec.ofInt k.bits a ||| BitVec.ofInt k.bits b).toNat))
      | .xor => some (true, .int k (k.wrap (BitVec.ofInt k.bits a ^^^ BitVec.ofInt k.bits b).toNat))
      | .andNot => some (true, .int k (k.wrap (BitVec.ofInt k.bits a &&& ~~~BitVec.ofInt k.bits b).toNat))
      | .eql => some (true, .bool (a == b))
      | .neq => some (true, .bool (a != b))
      | .lss => some (true, .bool (decide (a < b)))
      | .leq => some (true, .bool (decide (a ≤ b)))
      | .gtr => some (true, .bool (decide (a > b)))
      | .geq => some (true, .bool (decide (a ≥ b)))
      | _ => none
      else none
  | .string a, .string b =>
    match op with
    | .add => some (decide (((a.size + b.size : Nat) : Int) ≤ IntKind.i64.max), .string (a ++ b))
    | .eql => some (true, .bool (a.toList == b.toList))
    | .neq => some (true, .bool (!(a.toList == b.toList)))
    | .lss => some (true, .bool (Op.bytesLess a.toList b.toList))
    | .leq => some (true, .bool (Op.bytesLess a.toList b.toList || a.toList == b.toList))
    | .gtr => some (true, .bool (!(Op.bytesLess a.toList b.toList || a.toList == b.toList)))
    | .geq => some (true, .bool (!(Op.bytesLess a.toList b.toList)))
    | _ => none
  | .nilIface, .nilIface => none
  | x, y =>
    match op with
    | .eql => (eqA P so 20 t x y).map fun b => (true, .bool b)
    | .neq => (eqA P so 20 t x y).map fun b => (true, .bool (!b))
    | _ => none

section
variable {P : Program} {so : TypeId → Bool}
theorem partA_ren {ρ : Nat → Nat} {t : TypeId} {cs : Array Value} {off : Nat} {v : Value} (h : partA P t cs off = some v) : partA P t (cs.map (ren ρ)) off = some (ren ρ v) := by
  unfold partA at *
  simp only [fext_eq, fget_eq] at *
  split at h
  · rename_i d n _ _
    cases hd : d.isRow <;> simp only [hd, cond_true, cond_false] at h ⊢
    · simp [h]
    · cases h; rw [ren_agg, Array.map_extract]
  · cases h
theorem partA_bel {n : Nat} {t : TypeId} {cs : Array Value} {off : Nat} {v : Value} (h : partA P t cs off = some v) (hb : ∀ x ∈ cs, bel n x = true) : bel n v = true := by
  unfold partA at h
  simp only [fext_eq, fget_eq] at h
  split at h
  · rename_i d n _ _
    cases hd : d.isRow <;> simp only [hd, cond_true, cond_false] at h
    · exact hb v (Array.mem_of_getElem? h)
    · cases h; rw [bel_agg]; intro x hx
      obtain ⟨i, hi, rfl⟩ := Array.mem_iff_getElem.1 hx
      rw [Array.getElem_extract]; exact hb _ (Array.getElem_mem _)
  · cases h
theorem run_partA {t : TypeId} {cs : Array Value} {off : Nat} {v : Value} (h : partA P t cs off = some v) (w : World) : (part t cs off).run P w = .ok v w := by
  unfold partA at h
  simp only [fext_eq, fget_eq] at h
  split at h
  · rename_i d n hd hn
    have hs : (sizeOf t).run P w = .ok n w := by
      unfold sizeO at hn
      cases hq : P.info? t with
      | none => simp [hq] at hn
      | some i => simp only [hq, Option.map_some, Option.some.injEq] at hn; simp [sizeOf, typeInfo, hq, hn]
    have ha : (isAgg t).run P w = .ok d.isRow w := by
      unfold isAgg; rw [Sem.run_bind, run_underlying hd w]; cases d <;> rfl
    unfold part
    rw [Sem.run_bind, ha]
    cases hr : d.isRow <;> simp only [hr, cond_true, cond_false] at h ⊢
    · simp [h]
    · cases h; simp [hs]
  · cases h
theorem eqFieldsA_ren {ρ : Nat → Nat} {eq : TypeId → Value → Value → Option Bool} (he : ∀ t x y b, eq t x y = some b → eq t (ren ρ x) (ren ρ y) = some b) (xs ys : Array Value) :
    ∀ fs b, eqFieldsA P eq xs ys fs = some b → eqFieldsA P eq (xs.map (ren ρ)) (ys.map (ren ρ)) fs = some b
  | [], b, h => h
  | f :: fs, b, h => by
    unfold eqFieldsA at h ⊢
    split at h
    · rename_i hn
      rw [if_pos hn]
      split at h
      · rename_i a c h1 h2
        split at h
        · rename_i r s h3 h4
          simp only [partA_ren h1, partA_ren h2, he _ _ _ _ h3, eqFieldsA_ren he xs ys fs _ h4]; exact h
        · cases h
      · cases h
    · rename_i hn
      rw [if_neg hn]; exact eqFieldsA_ren he xs ys fs b h
theorem eqItemsA_ren {ρ : Nat → Nat} {eq : TypeId → Value → Value → Option Bool} (he : ∀ t x y b, eq t x y = some b → eq t (ren ρ x) (ren ρ y) = some b) (e : TypeId) (c : Nat) (xs ys : Array Value) :
    ∀ k i b, eqItemsA P eq e c xs ys k i = some b → eqItemsA P eq e c (xs.map (ren ρ)) (ys.map (ren ρ)) k i = some b
  | 0, _, _, h => h
  | k + 1, i, b, h => by
    unfold eqItemsA at h ⊢
    split at h
    · rename_i a c h1 h2
      split at h
      · rename_i r s h3 h4
        simp only [partA_ren h1, partA_ren h2, he _ _ _ _ h3, eqItemsA_ren he e _ xs ys k _ _ h4]; exact h
      · cases h
    · cases h
theorem eqA_ren {ρ : Nat → Nat} : ∀ (d : Nat) (t : TypeId) (x y : Value) (b : Bool), eqA P so d t x y = some b → eqA P so d t (ren ρ x) (ren ρ y) = some b
  | 0, _, _, _, _, h => by cases h
  | d + 1, t, x, y, b, h => by
    unfold eqA at h ⊢
    split at h
    case h_6 =>
      rename_i fields xs ys hu
      rw [ren_agg, ren_agg, hu]
      cases hs : so t <;> simp only [hs, cond_true, cond_false] at h ⊢
      · cases h
      · exact eqFieldsA_ren (fun t x y b hb => eqA_ren d t x y b hb) xs ys _ b h
    case h_7 =>
      rename_i n e xs ys hu
      rw [ren_agg, ren_agg, hu]
      cases hs : so t <;> simp only [hs, cond_true, cond_false] at h ⊢
      · cases h
      · split at h
        · rename_i i hi
          exact eqItemsA_ren (fun t x y b hb => eqA_ren d t x y b hb) e i.size xs ys n 0 b h
        · cases h
    all_goals first
      | (cases h; done)
      | (rename_i hu; simp only [ren, hu]; exact h)
      | (rename_i z hu; cases z <;> simp only [ren, hu] <;> exact h)
      | (rename_i z _ hu; cases z <;> simp only [ren, hu] <;> exact h)
      | (rename_i z _ _ hu; cases z <;> simp only [ren, hu] <;> exact h)
      | (simp only [ren_func, ren]; simp_all)
theorem run_eqFieldsA {d : Nat} {eq : TypeId → Value → Value → Option Bool} (he : ∀ t x y b, eq t x y = some b → ∀ w, (Op.equalIn d t x y).run P w = .ok b w) (xs ys : Array Value) (w : World) :
    ∀ fs b, eqFieldsA P eq xs ys fs = some b → (Op.eqFields d xs ys fs).run P w = .ok b w
  | [], b, h => by cases h; rfl
  | f :: fs, b, h => by
    unfold eqFieldsA at h
    unfold Op.eqFields
    split at h
    · rename_i hn
      rw [if_pos hn]
      split at h
      · rename_i a c h1 h2
        split at h
        · rename_i r s h3 h4
          have ih := run_eqFieldsA he xs ys w fs _ h4
          cases h
          simp only [Sem.run_bind, run_partA h1, run_partA h2, he _ _ _ _ h3, Result.andThen_ok]
          cases r
          · simp
          · simp [ih]
        · cases h
      · cases h
    · rename_i hn
      rw [if_neg hn]; exact run_eqFieldsA he xs ys w fs b h
theorem run_eqItemsA {d : Nat} {eq : TypeId → Value → Value → Option Bool} (he : ∀ t x y b, eq t x y = some b → ∀ w, (Op.equalIn d t x y).run P w = .ok b w) (e : TypeId) (c : Nat) (xs ys : Array Value) (w : World) :
    ∀ k i b, eqItemsA P eq e c xs ys k i = some b → (Op.eqItems d e c xs ys (List.range' i k)).run P w = .ok b w
  | 0, _, b, h => by cases h; rfl
  | k + 1, i, b, h => by
    unfold eqItemsA at h
    rw [List.range'_succ]
    unfold Op.eqItems
    split at h
    · rename_i a c2 h1 h2
      split at h
      · rename_i r s h3 h4
        have ih := run_eqItemsA he e c xs ys w k _ _ h4
        cases h
        simp only [Sem.run_bind, run_partA h1, run_partA h2, he _ _ _ _ h3, Result.andThen_ok]
        cases r
        · simp
        · simp [ih]
      · cases h
    · cases h
theorem run_eqA (hso : ∀ t, so t = true → P.stoodInHeld t = false ∧ P.eqGuardType P.depth t = false) : ∀ (d m : Nat) (_ : d ≤ m) (t : TypeId) (x y : Value) (b : Bool), eqA P so d t x y = some b → ∀ w, (Op.equalIn m t x y).run P w = .ok b w
  | 0, _, _, _, _, _, _, h, _ => by cases h
  | d + 1, 0, hm, _, _, _, _, _, _ => by omega
  | d + 1, m + 1, hm, t, x, y, b, h, w => by
    unfold eqA at h
    split at h
    case h_6 =>
      rename_i fields xs ys hu
      cases hs : so t <;> simp only [hs, cond_true, cond_false] at h
      · cases h
      · have hf : P.fieldsOf t = fields := by simp [Program.fieldsOf, hu]
        rw [run_equalIn_struct w m t xs ys (by rw [hf]; exact hu) (hso t hs).1, hf]
        exact run_eqFieldsA (fun t x y b hb w => run_eqA hso d m (by omega) t x y b hb w) xs ys w _ b h
    case h_7 =>
      rename_i n e xs ys hu
      cases hs : so t <;> simp only [hs, cond_true, cond_false] at h
      · cases h
      · split at h
        · rename_i i hi
          rw [run_equalIn_array w m xs ys hu hi, List.range_eq_range']
          have e1 : P.cellsOf e = i.size := by simp [Program.cellsOf, hi]
          rw [e1]
          exact run_eqItemsA (fun t x y b hb w => run_eqA hso d m (by omega) t x y b hb w) e i.size xs ys w n 0 b h
        · cases h
    case h_2 =>
      rename_i k k1 a k2 c hu
      split at h
      · rename_i hk; cases h; simp [Op.equalIn, run_underlying hu, hk]
      · cases h
    case h_3 =>
      rename_i a c hu
      cases h; exact run_equalIn_string w m t a c hu
    all_goals first
      | (cases h; done)
      | (rename_i hu; cases h; simp [Op.equalIn, run_underlying hu]; done)
      | (rename_i z hu; cases h; cases z <;> simp [Op.equalIn, run_underlying hu]; done)
      | (rename_i z _ hu; cases h; cases z <;> simp [Op.equalIn, run_underlying hu]; done)
      | (rename_i z _ _ hu; cases h; cases z <;> simp [Op.equalIn, run_underlying hu]; done)
end
end
end Go.Den
