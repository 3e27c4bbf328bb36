
/-
  OctetBack: what was put is got: contracts and mathematics.
-/
import Derived.Test.YtbmifinomdcllaaOcQ

import Derived.Test.YtbmifinomdcllaaOcI

namespace Go.Proofs.Ytbmifinomdcllaa

open Go.RowKit Go.Lib

set_option maxRecDepth 100000

theorem put_in (A : Option Addr) (l : List UInt8) (cap : Nat) (little : Bool) (n : Nat) (hn : n < 18446744073709551616) (m : Nat) (hm : m ≤ 8) (hlen : l.length ≤ 1048576) (w : World) (hr : Rd w A l) :
    Calls Try.prog 15 #[.agg #[.slice A l.length cap, .bool little], .int .u64 n, .int .i64 m] w fun e w' =>
      e = .returned (.agg #[.slice (some ⟨w.heap.size + 1 + 1, 0, none⟩) (l.length + m) (l.length + m), .bool little]) ∧ Rd w' (some ⟨w.heap.size + 1 + 1, 0, none⟩) (l ++ bytesF little m n) ∧ Below w.heap.size w w' := by
  have ho := fun w => order_any A l.length cap little n n rfl hn m hm w
  have hb := bytes_ord little n m hm
  rw [← hb]
  rcases (by omega : m = 0 ∨ m = 1 ∨ m = 2 ∨ m = 3 ∨ m = 4 ∨ m = 5 ∨ m = 6 ∨ m = 7 ∨ m = 8) with rfl | rfl | rfl | rfl | rfl | rfl | rfl | rfl | rfl
  · refine (put0 A l _ cap rfl little n hlen w hr _ ho).mono fun e w' h => ?_
    rw [show Lib.leBytes 0 (ordF little n 0) = [] from rfl, List.append_nil]; exact h
  · exact put1 A l _ cap _ rfl rfl little n hlen w hr _ ho
  · exact put2 A l _ cap _ rfl rfl little n hlen w hr _ ho
  · exact put3 A l _ cap _ rfl rfl little n hlen w hr _ ho
  · exact put4 A l _ cap _ rfl rfl little n hlen w hr _ ho
  · exact put5 A l _ cap _ rfl rfl little n hlen w hr _ ho
  · exact put6 A l _ cap _ rfl rfl little n hlen w hr _ ho
  · exact put7 A l _ cap _ rfl rfl little n hlen w hr _ ho
  · exact put8 A l _ cap _ rfl rfl little n hlen w hr _ ho
theorem leNat_mod (k v : Nat) : leNat (Lib.leBytes k v) = v % 256 ^ k := by
  induction k generalizing v with
  | zero => simp [Lib.leBytes, leNat, Nat.mod_one]
  | succ k ih =>
    simp only [Lib.leBytes, leNat, toUInt8_mod, ih]
    rw [Nat.pow_succ, Nat.mul_comm (256 ^ k) 256, Nat.mod_mul]
theorem valF_bytes (little : Bool) (m n : Nat) : valF little (bytesF little m n) = n % 256 ^ m := by
  cases little
  · show leNat (Lib.leBytes m n).reverse.reverse = _
    rw [List.reverse_reverse, leNat_mod]
  · exact leNat_mod m n
theorem valF_turn (little : Bool) (l : List UInt8) : valF (!little) l.reverse = valF little l := by
  cases little
  · rfl
  · show leNat l.reverse.reverse = leNat l
    rw [List.reverse_reverse]
theorem got_eq (l : List UInt8) (little : Bool) (m n : Nat) (hm : m ≤ 8) : getN little (l ++ bytesF little m n) l.length m = n % 256 ^ m ∧ getB (l ++ bytesF little m n) l.length m = true := by
  have hg : GetIf (l ++ bytesF little m n).length l.length m := by
    unfold GetIf; rw [List.length_append, bytesF_len]; omega
  refine ⟨?_, decide_eq_true hg⟩
  unfold getN
  rw [if_pos hg, Int.toNat_natCast, Int.toNat_natCast, List.drop_left, List.take_of_length_le (by rw [bytesF_len]; omega), valF_bytes]
theorem again_eq (little : Bool) (m n : Nat) (hm : m ≤ 8) : getN (!little) (bytesF little m n).reverse 0 m = n % 256 ^ m ∧ getB (bytesF little m n).reverse 0 m = true := by
  have hg : GetIf (bytesF little m n).reverse.length 0 m := by
    unfold GetIf; rw [List.length_reverse, bytesF_len]; omega
  refine ⟨?_, decide_eq_true hg⟩
  unfold getN
  rw [if_pos hg, Int.toNat_natCast, show (0 : Int).toNat = 0 from rfl, List.drop_zero, List.take_of_length_le (by rw [List.length_reverse, bytesF_len]; omega), valF_turn, valF_bytes]
theorem own_of2 {w : World} {B : Nat} {v : Value} {n : Nat} {l : List UInt8} (h : w.ownsRow B 5 1 v n (l.map u8)) : ∃ A c, v = .slice A l.length c ∧ l.length ≤ c ∧ Own w B A l := by
  have hl : l.length = n := by have := h.1; simpa using this
  obtain ⟨A, c, rfl, ho⟩ := own_of h
  refine ⟨A, c, rfl, ?_, ho⟩
  rcases h.2 with ⟨e, h0⟩ | ⟨g, cap, cur, e, _, _, hc, _⟩
  · injection e with _ e2 _; omega
  · injection e with _ e2 e3; omega
set_option maxHeartbeats 2000000 in
theorem clone_any2 (a : Addr) (l : List UInt8) (cap : Nat) (hlen : l.length ≤ 1048576) (w : World) (hr : Rd w (some a) l) :
    Calls Try.prog 19 #[.slice (some a) l.length cap] w fun e w' => ∃ A c, e = .returned (.slice A l.length c) ∧ l.length ≤ c ∧ Own w' w.heap.size A l ∧ Below w.heap.size w w' := by
  obtain ⟨i0, hi, hz0, hz1, hz2⟩ := info_parts info_u8b
  have HI := Lib.hid hi
  have q22 : ∀ (w : World) (a : Option Addr) (n c n' c' : Nat), (binOp .eql 22 (.slice a n c) (.slice none n' c')).run Try.prog w = .ok (.bool a.isNone) w := fun w a n c n' c' => Lib.run_eql_slice_nil w _ _ a n c n' c' Try.underlying22
  have hc : ∀ j u, (l.map u8)[j]? = some u → w.cell? (a.add j) = some u := fun j u hu => by
    rw [List.getElem?_map] at hu
    cases hx : l[j]? with
    | none => rw [hx] at hu; cases hu
    | some x =>
      rw [hx] at hu; cases hu
      obtain ⟨blk, off, ha, hcc⟩ := hr (by rintro rfl; simp at hx)
      cases ha
      rw [plain_add]; exact hcc j x hx
  have HC := Lib.hid hc
  clear hc hi hr
  go_enter Try.func19, Try.ntmps19
  go_wp2_with (at_builtin; refine wpList_append_own _ rfl _ _ 22 rfl w.heap.size 5 i0 (.int .u8 0) 1 1 Try.underlying22 HI.out hz0 hz1 hz2 rfl (by decide) _ _ _ rfl (World.ownsRow_made w #[] 0 (Nat.le_refl _) (Nat.zero_le _) rfl) a l.length cap (l.map u8) rfl ?qc1 ?qc2 ?qc3 ?qc4 ?qc5 ?qc6 ?_)
  case qc1 => simp
  case qc2 => intro j u hu; exact Lib.cell?_alloc_some _ (HC.out j u hu)
  case qc3 => intro u hu; obtain ⟨x, _, rfl⟩ := List.mem_map.1 hu; rfl
  case qc4 => unfold maxLen; omega
  case qc5 => omega
  case qc6 => simp
  intro v' w1 hown hgrow hnil
  have hown2 : w1.ownsRow w.heap.size 5 1 v' l.length (l.map u8) := by simpa using hown
  have HO := Lib.hid hown2; have HG := Lib.hid hgrow
  clear hown hown2 hgrow hnil
  go_wp2
  go_ret
  obtain ⟨A, c, rfl, hc, ho⟩ := own_of2 HO.out
  exact ⟨A, c, rfl, hc, ho, ((Below.refl _ w).alloc (Nat.le_refl _) _).grown HG.out (by simp) (by intro k hk; simp [Value.ownBlock] at hk; omega)⟩
structure BdN (n : Nat) : Prop where
  lt : n < 18446744073709551616
/-- The bytes behind the row. -/
theorem rd_own {w : World} {g : Nat} {l : List UInt8} {little : Bool} {m n : Nat} (h : Rd w (some ⟨g, 0, none⟩) (l ++ bytesF little m n)) : Rd w (some ⟨g, if m = 0 then 0 else l.length, none⟩) (bytesF little m n) := fun hl => by
  have hm : m ≠ 0 := by rintro rfl; apply hl; have := bytesF_len little 0 n; exact List.eq_nil_of_length_eq_zero this
  obtain ⟨b, o, hA, hc⟩ := h (by simp [hl])
  cases hA
  refine ⟨g, l.length, by rw [if_neg hm], fun j x hx => ?_⟩
  have h2 := hc (l.length + j) x (by rw [List.getElem?_append_right (by omega), Nat.add_sub_cancel_left]; exact hx)
  rwa [Nat.zero_add] at h2
theorem cut_in (g len cap m : Nat) (little : Bool) (hcap : len + m ≤ cap) (hlen : len + m ≤ 4611686018427387904) (w : World) :
    Calls Try.prog 10 #[.agg #[.slice (some ⟨g, 0, none⟩) (len + m) cap, .bool little], .int .i64 len, .int .i64 m] w fun e w' => e = .returned (.tuple #[.slice (some ⟨g, if m = 0 then 0 else len, none⟩) m m, .bool true]) ∧ Below w.heap.size w w' := by
  have h := cut_ok (some ⟨g, 0, none⟩) (len + m) cap little len m (Nat.le_refl _) hcap hlen w
  have e : cutA (some ⟨g, 0, none⟩) len m = some ⟨g, if m = 0 then 0 else len, none⟩ := by
    unfold cutA
    split
    · rfl
    · show some ((⟨g, 0, none⟩ : Addr).add len) = _
      rw [plain_add, Nat.zero_add]
  rwa [e] at h
end Go.Proofs.Ytbmifinomdcllaa
