/-
  Own texts, merged: UnD TxG HxA HxB HxC HxD HxE PmA PmB PmC TxH TxI TxJ OpenL TxL BkA BkB UnE BkW TxP TxQ
-/
import Derived.OwnWalk
import Derived.Deep.AppendLies
import Derived.Deep.RegionLaw
import Derived.Lib.OthersKept
import Derived.Laws.RangeAny
import Derived.Test.YtfjfmcnnakfjnaaDoorTie
import Derived.Lib.LaidTab
import Derived.Lay
import Derived.LaidMore
import Derived.OpenShut
import Derived.Carry
import Derived.ChangeSlices
import Derived.ChangeMaps5
import Derived.Stop.LaidErr
import Derived.Stop.Joined
import Derived.Shelf.Vars
import Derived.SevenTiedAt
import Derived.Test.YtfjfmcnnakfjnaaDoorV2


/-
  The document's number of a text: its contract.
-/

namespace Go.Proofs.YtfjfmcnnakfjnaaDoor

open Go.Den Go.RowKit
noncomputable section
set_option maxRecDepth 100000

def uMin (s : ByteArray) : Bool := decide (0 < s.size) && (byteAt s 0 == 45)
def uFrom (s : ByteArray) : Nat := bif uMin s then 1 else 0
def uDo (s : ByteArray) : Bool := !(s.size == uFrom s) && decide (s.size ≤ 60)
def uOk0 (s : ByteArray) : Bool := uDo s && (uGo (s.data.toList.drop (uFrom s)) 0).1
def uSn (s : ByteArray) : Bool := uOk0 s && uMin s
def uVl (s : ByteArray) : Int := bif uDo s then (uGo (s.data.toList.drop (uFrom s)) 0).2 else 0
def uFin (s : ByteArray) (A B : Int) : Bool := uOk0 s && ((tx (sv (uMin s) (uVl s))).toList == s.toList && (decide (A ≤ sv (uMin s) (uVl s)) && decide (sv (uMin s) (uVl s) ≤ B)))
theorem cmpI_ge (a b : Int) : decide (cmpI a b ≥ 0) = decide (b ≤ a) := by
  unfold cmpI; split
  · rename_i h; rw [decide_eq_decide]; omega
  · split
    · rw [decide_eq_decide]; omega
    · rw [decide_eq_decide]; omega
theorem cmpI_le (a b : Int) : decide (cmpI a b ≤ 0) = decide (a ≤ b) := by
  unfold cmpI; split
  · rename_i h; rw [decide_eq_decide]; omega
  · split
    · rw [decide_eq_decide]; omega
    · rw [decide_eq_decide]; omega
theorem pow_le {a b : Nat} (h : a ≤ b) : (10 : Int) ^ a ≤ 10 ^ b := by
  have h2 := Int.ofNat_le.2 (Nat.pow_le_pow_right (n := 10) (by omega) h)
  rw [Int.natCast_pow, Int.natCast_pow] at h2
  exact h2
theorem uGo_bd : ∀ (l : List UInt8) (n : Int), 0 ≤ n → (n + 1) * 10 ^ l.length ≤ 10 ^ 60 → 0 ≤ (uGo l n).2 ∧ (uGo l n).2 < 10 ^ 60
  | [], n, h0, h => ⟨h0, small_of h0 h⟩
  | c :: r, n, h0, h => by
    show 0 ≤ (bif isDig c then uGo r (n * 10 + ((c.toNat : Int) - 48)) else (false, n)).2 ∧ (bif isDig c then uGo r (n * 10 + ((c.toNat : Int) - 48)) else (false, n)).2 < 10 ^ 60
    cases hc : isDig c
    · exact ⟨h0, small_of h0 h⟩
    · have hd := c_dig hc
      rw [List.length_cons] at h
      exact uGo_bd r _ (by omega) (next_of hd h)
variable {s : ByteArray} {s1 : Bool} {m1 : Int} {s2 : Bool} {m2 : Int}

theorem un_tail (b : Bool) {kk i n : Int} {zs : List Value} (hk : (kk == 1) = b) : ∃ st, SatCode Tryd.prog [] unZ (unT zs s s1 m1 s2 m2 kk i false n) .ret st ∧
    resultsA Tryd.prog [] Tryd.f14 st.tmps st.h = some (.tuple #[nv b n, .bool (uEq b s n && (uGe b n s1 m1 && uLe b n s2 m2))]) := by
  have o1 := ok_nv n
  have o2 : uOk2 n m1 = true := by unfold uOk2; rw [ok_nv, ok_nv]; rfl
  have o3 : uOk2 n m2 = true := by unfold uOk2; rw [ok_nv, ok_nv]; rfl
  cases b
  · cases h1 : uEq false s n
    · exact ⟨_, sat_way un_k6 ((un_zfd1 zs s s1 m1 s2 m2 kk i false n).trans (by rw [hk, o1, h1]; rfl)) (un_zfd2 zs s s1 m1 s2 m2 kk i false n), un_zfd3 zs s s1 m1 s2 m2 kk i false n⟩
    · cases h2 : uGe false n s1 m1
      · exact ⟨_, sat_way un_k6 ((un_zfc1 zs s s1 m1 s2 m2 kk i false n).trans (by rw [hk, o1, h1, o2, h2]; rfl)) (un_zfc2 zs s s1 m1 s2 m2 kk i false n), un_zfc3 zs s s1 m1 s2 m2 kk i false n⟩
      · cases h3 : uLe false n s2 m2
        · exact ⟨_, sat_way un_k6 ((un_zfb1 zs s s1 m1 s2 m2 kk i false n).trans (by rw [hk, o1, h1, o2, h2, o3, h3]; rfl)) (un_zfb2 zs s s1 m1 s2 m2 kk i false n), un_zfb3 zs s s1 m1 s2 m2 kk i false n⟩
        · exact ⟨_, sat_way un_k6 ((un_zfa1 zs s s1 m1 s2 m2 kk i false n).trans (by rw [hk, o1, h1, o2, h2, o3, h3]; rfl)) (un_zfa2 zs s s1 m1 s2 m2 kk i false n), un_zfa3 zs s s1 m1 s2 m2 kk i false n⟩
  · cases h1 : uEq true s n
    · exact ⟨_, sat_way un_k6 ((un_ztd1 zs s s1 m1 s2 m2 kk i false n).trans (by rw [hk, o1, h1]; rfl)) (un_ztd2 zs s s1 m1 s2 m2 kk i false n), un_ztd3 zs s s1 m1 s2 m2 kk i false n⟩
    · cases h2 : uGe true n s1 m1
      · exact ⟨_, sat_way un_k6 ((un_ztc1 zs s s1 m1 s2 m2 kk i false n).trans (by rw [hk, o1, h1, o2, h2]; rfl)) (un_ztc2 zs s s1 m1 s2 m2 kk i false n), un_ztc3 zs s s1 m1 s2 m2 kk i false n⟩
      · cases h3 : uLe true n s2 m2
        · exact ⟨_, sat_way un_k6 ((un_ztb1 zs s s1 m1 s2 m2 kk i false n).trans (by rw [hk, o1, h1, o2, h2, o3, h3]; rfl)) (un_ztb2 zs s s1 m1 s2 m2 kk i false n), un_ztb3 zs s s1 m1 s2 m2 kk i false n⟩
        · exact ⟨_, sat_way un_k6 ((un_zta1 zs s s1 m1 s2 m2 kk i false n).trans (by rw [hk, o1, h1, o2, h2, o3, h3]; rfl)) (un_zta2 zs s s1 m1 s2 m2 kk i false n), un_zta3 zs s s1 m1 s2 m2 kk i false n⟩
theorem un_from {x : Exit} {st : St} (h : SatCode Tryd.prog [] un3 (unS3 s s1 m1 s2 m2) x st) : SatCode Tryd.prog [] unC (unS0 s s1 m1 s2 m2) x st :=
  sat_seq un_q0 (sat_way un_k0 (un_a0 s s1 m1 s2 m2) (un_g0 s s1 m1 s2 m2)) (sat_seq un_q1 (sat_way un_k1 (un_a1 s s1 m1 s2 m2) (un_g1 s s1 m1 s2 m2)) (sat_seq un_q2 (sat_way un_k2 (un_a2 s s1 m1 s2 m2) (un_g2 s s1 m1 s2 m2)) h))
theorem un_call {st : St} {v : Value} (h : SatCode Tryd.prog [] unC (unS0 s s1 m1 s2 m2) .ret st) (hr : resultsA Tryd.prog [] Tryd.f14 st.tmps st.h = some v) (hv : bel B0 v = true) (w : World) :
    Calls Tryd.prog 14 #[.string s, nv s1 m1, nv s2 m2] w fun e w' => e = .returned v ∧ Below w.heap.size w w' := by
  have h' : SatCode Tryd.prog [] unC ⟨Go.Den.start (#[.string s, nv s1 m1, nv s2 m2] : Array Value).toList Tryd.f14.ntmps, [], B0⟩ .ret st := h
  exact calls_sat (sat_call Tryd.func14 un_body (by kernel_rfl) h' (.inr rfl) hr) (by kernel_rfl) hv w
theorem un_none (w : World) (hd : uDo s = false) (A B : Int) :
    Calls Tryd.prog 14 #[.string s, nv s1 m1, nv s2 m2] w fun e w' => e = .returned (.tuple #[nv (uSn s) (uVl s), .bool (uFin s A B)]) ∧ Below w.heap.size w w' := by
  have e1 : uOk0 s = false := by unfold uOk0; rw [hd]; rfl
  have e2 : (Value.tuple #[nv (uSn s) (uVl s), .bool (uFin s A B)]) = .tuple #[nv false 0, .bool false] := by
    unfold uSn uVl uFin; rw [e1, hd]; rfl
  rw [e2]
  have hbel : bel B0 (.tuple #[nv false 0, .bool false]) = true := by kernel_rfl
  by_cases h0 : s.size = 0
  · have b1 : decide ((s.size : Int) > 0) = false := by rw [decide_eq_false_iff_not]; omega
    have b2 : ((s.size : Int) == 0) = true := by rw [beq_iff_eq]; omega
    exact un_call (un_from (sat_seq un_q3 (sat_way un_k3 ((un_a3e s s1 m1 s2 m2).trans (by rw [b1]; rfl)) (un_g3e s s1 m1 s2 m2)) (sat_seq_ret un_q4 (sat_way un_k4 ((un_a4er s s1 m1 s2 m2).trans (by rw [b2]; rfl)) (un_g4er s s1 m1 s2 m2)))))
      (un_r4er s s1 m1 s2 m2) hbel w
  have b1 : decide ((s.size : Int) > 0) = true := by rw [decide_eq_true_eq]; omega
  cases hm : (byteAt s 0 == 45)
  · have hu : uMin s = false := by unfold uMin; rw [hm, Bool.and_false]
    have hf : uFrom s = 0 := by unfold uFrom; rw [hu]; rfl
    have h60 : 60 < s.size := by
      unfold uDo at hd; rw [hf] at hd
      simp only [Bool.and_eq_false_iff, Bool.not_eq_false', beq_iff_eq, decide_eq_false_iff_not] at hd
      omega
    have b2 : ((s.size : Int) == 0) = false := by rw [beq_eq_false_iff_ne]; omega
    have b3 : decide ((s.size : Int) > 60) = true := by rw [decide_eq_true_eq]; omega
    exact un_call (un_from (sat_seq un_q3 (sat_way un_k3 ((un_a3p s s1 m1 s2 m2).trans (by rw [b1, hm]; rfl)) (un_g3p s s1 m1 s2 m2)) (sat_seq_ret un_q4 (sat_way un_k4 ((un_a4ps s s1 m1 s2 m2).trans (by rw [b2, b3]; rfl)) (un_g4ps s s1 m1 s2 m2)))))
      (un_r4ps s s1 m1 s2 m2) hbel w
  · have hu : uMin s = true := by unfold uMin; rw [hm, decide_eq_true (by omega)]; rfl
    have hf : uFrom s = 1 := by unfold uFrom; rw [hu]; rfl
    by_cases h1 : s.size = 1
    · have b2 : ((s.size : Int) == 1) = true := by rw [beq_iff_eq]; omega
      exact un_call (un_from (sat_seq un_q3 (sat_way un_k3 ((un_a3m s s1 m1 s2 m2).trans (by rw [b1, hm]; rfl)) (un_g3m s s1 m1 s2 m2)) (sat_seq_ret un_q4 (sat_way un_k4 ((un_a4mr s s1 m1 s2 m2).trans (by rw [b2]; rfl)) (un_g4mr s s1 m1 s2 m2)))))
        (un_r4mr s s1 m1 s2 m2) hbel w
    · have h60 : 60 < s.size := by
        unfold uDo at hd; rw [hf] at hd
        simp only [Bool.and_eq_false_iff, Bool.not_eq_false', beq_iff_eq, decide_eq_false_iff_not] at hd
        omega
      have b2 : ((s.size : Int) == 1) = false := by rw [beq_eq_false_iff_ne]; omega
      have b3 : decide ((s.size : Int) > 60) = true := by rw [decide_eq_true_eq]; omega
      exact un_call (un_from (sat_seq un_q3 (sat_way un_k3 ((un_a3m s s1 m1 s2 m2).trans (by rw [b1, hm]; rfl)) (un_g3m s s1 m1 s2 m2)) (sat_seq_ret un_q4 (sat_way un_k4 ((un_a4ms s s1 m1 s2 m2).trans (by rw [b2, b3]; rfl)) (un_g4ms s s1 m1 s2 m2)))))
        (un_r4ms s s1 m1 s2 m2) hbel w
theorem un_some (w : World) (hd : uDo s = true) (h10 : 0 ≤ m1) (h11 : m1 < T320) (h20 : 0 ≤ m2) (h21 : m2 < T320) :
    Calls Tryd.prog 14 #[.string s, nv s1 m1, nv s2 m2] w fun e w' => e = .returned (.tuple #[nv (uSn s) (uVl s), .bool (uFin s (sv s1 m1) (sv s2 m2))]) ∧ Below w.heap.size w w' := by
  have hd' := hd
  unfold uDo at hd'
  simp only [Bool.and_eq_true, Bool.not_eq_true', beq_eq_false_iff_ne, decide_eq_true_eq] at hd'
  obtain ⟨hne, h60⟩ := hd'
  have hv : uVl s = (uGo (s.data.toList.drop (uFrom s)) 0).2 := by unfold uVl; rw [hd]; rfl
  have ho : uOk0 s = (uGo (s.data.toList.drop (uFrom s)) 0).1 := by unfold uOk0; rw [hd]; rfl
  have hsz : 0 < s.size := by
    rcases Nat.eq_zero_or_pos s.size with h | h
    · have hu : uMin s = false := by unfold uMin; rw [decide_eq_false (by omega)]; rfl
      have : uFrom s = 0 := by unfold uFrom; rw [hu]; rfl
      omega
    · exact h
  have b1 : decide ((s.size : Int) > 0) = true := by rw [decide_eq_true_eq]; omega
  have b3 : decide ((s.size : Int) > 60) = false := by rw [decide_eq_false_iff_not]; omega
  have hlen : ((0 : Int) + 1) * 10 ^ (s.data.toList.drop (uFrom s)).length ≤ 10 ^ 60 := by
    rw [List.length_drop, size_dat, Int.zero_add, Int.one_mul]
    exact pow_le (by omega)
  obtain ⟨v0, v1⟩ := uGo_bd (s.data.toList.drop (uFrom s)) 0 (by omega) hlen
  rw [← hv] at v0 v1
  have hfin : ∀ b, uMin s = b → uOk0 s = true → (uEq b s (uVl s) && (uGe b (uVl s) s1 m1 && uLe b (uVl s) s2 m2)) = uFin s (sv s1 m1) (sv s2 m2) := fun b hb hk => by
    have hm : mag (mapU (digsN 20 (uVl s))) = uVl s := mag_nv v0 (by rw [ten60] at v1; unfold T320; omega)
    unfold uFin uEq uGe uLe
    rw [hk, hb, hm, mag_nv h10 h11, mag_nv h20 h21, cmpI_ge, cmpI_le]; rfl
  have hno : uOk0 s = false → (Value.tuple #[nv (uSn s) (uVl s), .bool (uFin s (sv s1 m1) (sv s2 m2))]) = .tuple #[nv false (uVl s), .bool false] := fun h => by
    unfold uSn uFin; rw [h]; rfl
  have hbel : ∀ b, bel B0 (.tuple #[nv b (uVl s), .bool false]) = true := fun b => by kernel_rfl
  cases hm : (byteAt s 0 == 45)
  · have hu : uMin s = false := by unfold uMin; rw [hm, Bool.and_false]
    have hf : uFrom s = 0 := by unfold uFrom; rw [hu]; rfl
    rw [hf] at hv ho hlen
    have b2 : ((s.size : Int) == 0) = false := by rw [beq_eq_false_iff_ne]; omega
    obtain ⟨L1, L2⟩ := un_loop (s1 := s1) (m1 := m1) (s2 := s2) (m2 := m2) (k := 0) h60 _ 0 0 (tlOf (unS6p s s1 m1 s2 m2)) rfl (Nat.zero_le _) (by omega) hlen
    rw [← ho, ← hv] at L1 L2
    have pre : ∀ {x : Exit} {st : St}, SatCode Tryd.prog [] un5 (unS5p s s1 m1 s2 m2) x st → SatCode Tryd.prog [] unC (unS0 s s1 m1 s2 m2) x st := fun h =>
      un_from (sat_seq un_q3 (sat_way un_k3 ((un_a3p s s1 m1 s2 m2).trans (by rw [b1, hm]; rfl)) (un_g3p s s1 m1 s2 m2)) (sat_seq un_q4 (sat_way un_k4 ((un_a4pn s s1 m1 s2 m2).trans (by rw [b2, b3]; rfl)) (un_g4pn s s1 m1 s2 m2)) h))
    cases hk : uOk0 s
    · rw [hno hk]
      obtain ⟨st, h1, h2⟩ := L2 hk
      exact un_call (pre (sat_seq_ret un_q5 (sat_seq un_q6 (sat_way un_k5 (un_a5p s s1 m1 s2 m2) (un_g5p s s1 m1 s2 m2)) (sat_arr (un_t6p s s1 m1 s2 m2) (un_h6p s s1 m1 s2 m2) (un_n6p s s1 m1 s2 m2) (sat_block_ret un_q7 h1))))) h2 (hbel _) w
    · obtain ⟨z, h1⟩ := L1 hk
      obtain ⟨st, h3, h4⟩ := un_tail (s := s) (s1 := s1) (m1 := m1) (s2 := s2) (m2 := m2) false (kk := 0) (i := (s.size : Int)) (n := uVl s) (zs := z) rfl
      rw [hfin false hu hk] at h4
      have e2 : uSn s = false := by unfold uSn; rw [hu, Bool.and_false]
      rw [e2]
      exact un_call (pre (sat_seq un_q5 (sat_seq un_q6 (sat_way un_k5 (un_a5p s s1 m1 s2 m2) (un_g5p s s1 m1 s2 m2)) (sat_arr (un_t6p s s1 m1 s2 m2) (un_h6p s s1 m1 s2 m2) (un_n6p s s1 m1 s2 m2) (sat_block un_q7 h1))) h3)) h4 (by kernel_rfl) w
  · have hu : uMin s = true := by unfold uMin; rw [hm, decide_eq_true hsz]; rfl
    have hf : uFrom s = 1 := by unfold uFrom; rw [hu]; rfl
    rw [hf] at hv ho hlen hne
    have b2 : ((s.size : Int) == 1) = false := by rw [beq_eq_false_iff_ne]; omega
    obtain ⟨L1, L2⟩ := un_loop (s1 := s1) (m1 := m1) (s2 := s2) (m2 := m2) (k := 1) h60 _ 1 0 (tlOf (unS6m s s1 m1 s2 m2)) rfl (by omega) (by omega) hlen
    rw [← ho, ← hv] at L1 L2
    have pre : ∀ {x : Exit} {st : St}, SatCode Tryd.prog [] un5 (unS5m s s1 m1 s2 m2) x st → SatCode Tryd.prog [] unC (unS0 s s1 m1 s2 m2) x st := fun h =>
      un_from (sat_seq un_q3 (sat_way un_k3 ((un_a3m s s1 m1 s2 m2).trans (by rw [b1, hm]; rfl)) (un_g3m s s1 m1 s2 m2)) (sat_seq un_q4 (sat_way un_k4 ((un_a4mn s s1 m1 s2 m2).trans (by rw [b2, b3]; rfl)) (un_g4mn s s1 m1 s2 m2)) h))
    cases hk : uOk0 s
    · rw [hno hk]
      obtain ⟨st, h1, h2⟩ := L2 hk
      exact un_call (pre (sat_seq_ret un_q5 (sat_seq un_q6 (sat_way un_k5 (un_a5m s s1 m1 s2 m2) (un_g5m s s1 m1 s2 m2)) (sat_arr (un_t6m s s1 m1 s2 m2) (un_h6m s s1 m1 s2 m2) (un_n6m s s1 m1 s2 m2) (sat_block_ret un_q7 h1))))) h2 (hbel _) w
    · obtain ⟨z, h1⟩ := L1 hk
      obtain ⟨st, h3, h4⟩ := un_tail (s := s) (s1 := s1) (m1 := m1) (s2 := s2) (m2 := m2) true (kk := 1) (i := (s.size : Int)) (n := uVl s) (zs := z) rfl
      rw [hfin true hu hk] at h4
      have e2 : uSn s = true := by unfold uSn; rw [hu, hk]; rfl
      rw [e2]
      exact un_call (pre (sat_seq un_q5 (sat_seq un_q6 (sat_way un_k5 (un_a5m s s1 m1 s2 m2) (un_g5m s s1 m1 s2 m2)) (sat_arr (un_t6m s s1 m1 s2 m2) (un_h6m s s1 m1 s2 m2) (un_n6m s s1 m1 s2 m2) (sat_block un_q7 h1))) h3)) h4 (by kernel_rfl) w
theorem un_any (s : ByteArray) (s1 : Bool) (s2 : Bool) {m1 m2 : Int} (h10 : 0 ≤ m1) (h11 : m1 < T320) (h20 : 0 ≤ m2) (h21 : m2 < T320) (w : World) :
    Calls Tryd.prog 14 #[.string s, nv s1 m1, nv s2 m2] w fun e w' => e = .returned (.tuple #[nv (uSn s) (uVl s), .bool (uFin s (sv s1 m1) (sv s2 m2))]) ∧ Below w.heap.size w w' := by
  cases hd : uDo s
  · exact un_none w hd _ _
  · exact un_some w hd h10 h11 h20 h21
end

end Go.Proofs.YtfjfmcnnakfjnaaDoor


/-
  Read by wip/tools/vc.py, and what follows.
-/

namespace Go.Proofs.YtfjfmcnnakfjnaaDoor

open Go.Den Go.RowKit
noncomputable section
set_option maxRecDepth 100000

set_option linter.unusedSectionVars false

variable [Inhabited Root]

theorem undec_vc (hT : Tab rootW) (s : ByteArray) (Q : Value → Prop) : ((ev (envUD hT) 80).call [] 13 #[.string s] [] B0).holds (fun r => Q r.v) = (bcase (uwK s)
  (bcase (okW (hi (uwV s)) (lo (uwV s)))
    (bcase (okI (clip (W2 (hi (uwV s)) (lo (uwV s)))))
      (bcase
        (!(hi (clip (W2 (hi (uwV s)) (lo (uwV s)))) == hi (uwV s) &&
            (lo (clip (W2 (hi (uwV s)) (lo (uwV s)))) == lo (uwV s) && true)))
        (Q (Value.tuple { toList := [Value.int IntKind.i64 0, Value.bool false] }))
        (Q (Value.tuple { toList := [Value.int IntKind.i64 (clip (W2 (hi (uwV s)) (lo (uwV s)))), Value.bool true] })))
      False)
    False)
  (bcase (okW (hi (uwV s)) (lo (uwV s)))
    (bcase (okI (clip (W2 (hi (uwV s)) (lo (uwV s)))))
      (bcase
        (!(hi (clip (W2 (hi (uwV s)) (lo (uwV s)))) == hi (uwV s) &&
            (lo (clip (W2 (hi (uwV s)) (lo (uwV s)))) == lo (uwV s) && true)))
        (Q (Value.tuple { toList := [Value.int IntKind.i64 0, Value.bool false] }))
        (Q (Value.tuple { toList := [Value.int IntKind.i64 (clip (W2 (hi (uwV s)) (lo (uwV s)))), Value.bool false] })))
      False)
    False)) := by kernel_rfl
theorem ununs_vc (hT : Tab rootW) (s : ByteArray) (Q : Value → Prop) : ((ev (envUD hT) 80).call [] 16 #[.string s] [] B0).holds (fun r => Q r.v) = (bcase (uwK s)
  (bcase (hi (uwV s) != 0) (Q (Value.tuple { toList := [Value.int IntKind.u64 0, Value.bool false] }))
    (Q (Value.tuple { toList := [Value.int IntKind.u64 (lo (uwV s)), Value.bool true] })))
  (bcase (hi (uwV s) != 0) (Q (Value.tuple { toList := [Value.int IntKind.u64 0, Value.bool false] }))
    (Q (Value.tuple { toList := [Value.int IntKind.u64 (lo (uwV s)), Value.bool false] })))) := by kernel_rfl
noncomputable def udV (s : ByteArray) : Int := (udS s.data.toList).getD 0
noncomputable def udK (s : ByteArray) : Bool := (udS s.data.toList).isSome
noncomputable def uuV (s : ByteArray) : Int := (uuS s.data.toList).getD 0
noncomputable def uuK (s : ByteArray) : Bool := (uuS s.data.toList).isSome
theorem uw_cases (s : ByteArray) : (∃ v, uwS s.data.toList = some v ∧ uwV s = v ∧ uwK s = true ∧ InR v) ∨ (uwS s.data.toList = none ∧ uwV s = 0 ∧ uwK s = false) := by
  unfold uwV uwK
  cases h : uwS s.data.toList with
  | none => exact .inr ⟨rfl, rfl, rfl⟩
  | some v => exact .inl ⟨v, rfl, rfl, rfl, (uw_some h).2⟩
theorem clip_same {v : Int} (_h : InR v) : (hi (clip v) == hi v && (lo (clip v) == lo v && true)) = decide (-9223372036854775808 ≤ v ∧ v ≤ 9223372036854775807) := by
  rw [Bool.eq_iff_iff]
  simp only [Bool.and_eq_true, beq_iff_eq, decide_eq_true_eq, and_true]
  constructor
  · rintro ⟨a, b⟩
    have := hilo_inj a b
    unfold clip at this; split at this <;> (try split at this) <;> omega
  · intro a
    have : clip v = v := by unfold clip; rw [if_neg (by omega), if_neg (by omega)]
    rw [this]; exact ⟨rfl, rfl⟩
theorem clip_of {v : Int} (h0 : -9223372036854775808 ≤ v) (h1 : v ≤ 9223372036854775807) : clip v = v := by
  unfold clip; rw [if_neg (by omega), if_neg (by omega)]
theorem undec_any (hT : Tab rootW) (s : ByteArray) (w : World) (hw : Held w) :
    Calls Tryd.prog 13 #[.string s] w fun e w' => e = .returned (.tuple #[.int .i64 (udV s), .bool (udK s)]) ∧ Below w.heap.size w w' := by
  refine calls_specK (envUD hT) hcokP 80 (v := .tuple #[.int .i64 (udV s), .bool (udK s)]) ?_ (all_bel rfl) rfl w hw
  rw [undec_vc hT s (fun v => v = .tuple #[.int .i64 (udV s), .bool (udK s)])]
  have hin := uwV_in s
  rw [okW_hilo hin, W2_hilo, clip_ok hin, clip_same hin]
  simp only [bcase_t]
  unfold udV udK udS
  rcases uw_cases s with ⟨v, h1, h2, h3, h4⟩ | ⟨h1, h2, h3⟩
  · rw [h1, h2, h3, bcase_t, Option.bind_some]
    by_cases h : -9223372036854775808 ≤ v ∧ v ≤ 9223372036854775807
    · rw [decide_eq_true h, if_pos h, clip_of h.1 h.2]; rfl
    · rw [decide_eq_false h, if_neg h]; rfl
  · rw [h1, h2, h3]
    rw [decide_eq_true (by omega), clip_of (by omega) (by omega)]; rfl
theorem ununs_any (hT : Tab rootW) (s : ByteArray) (w : World) (hw : Held w) :
    Calls Tryd.prog 16 #[.string s] w fun e w' => e = .returned (.tuple #[.int .u64 (uuV s), .bool (uuK s)]) ∧ Below w.heap.size w w' := by
  refine calls_specK (envUD hT) hcokP 80 (v := .tuple #[.int .u64 (uuV s), .bool (uuK s)]) ?_ (all_bel rfl) rfl w hw
  rw [ununs_vc hT s (fun v => v = .tuple #[.int .u64 (uuV s), .bool (uuK s)])]
  unfold uuV uuK uuS
  rcases uw_cases s with ⟨v, h1, h2, h3, h4⟩ | ⟨h1, h2, h3⟩
  · rw [h1, h2, h3, bcase_t, Option.bind_some]
    by_cases h : 0 ≤ v ∧ v ≤ 18446744073709551615
    · have e1 : hi v = 0 := by unfold hi; omega
      have e2 : lo v = v := by unfold lo; omega
      rw [e1, e2, if_pos h]; rfl
    · have e1 : (hi v != 0) = true := by rw [bne_iff_ne]; unfold hi InR at *; omega
      rw [e1, if_neg h]; rfl
  · rw [h1, h2, h3]; rfl
noncomputable def undS : Array Value → Option (Bool × Value)
  | ⟨[.string s]⟩ => some (true, .tuple #[.int .i64 (udV s), .bool (udK s)])
  | _ => none
noncomputable def ununS : Array Value → Option (Bool × Value)
  | ⟨[.string s]⟩ => some (true, .tuple #[.int .u64 (uuV s), .bool (uuK s)])
  | _ => none
noncomputable def pkUnd (hT : Tab rootW) : PK Tryd.prog where
  f := 13
  spec := undS
  body := by kernel_rfl
  ok := fun args r hr hok => by
    unfold undS at hr
    split at hr
    · cases hr
      exact ⟨all_bel rfl, rfl, fun w hw => undec_any hT _ w hw⟩
    · cases hr
noncomputable def pkUnun (hT : Tab rootW) : PK Tryd.prog where
  f := 16
  spec := ununS
  body := by kernel_rfl
  ok := fun args r hr hok => by
    unfold ununS at hr
    split at hr
    · cases hr
      exact ⟨all_bel rfl, rfl, fun w hw => ununs_any hT _ w hw⟩
    · cases hr
noncomputable def pkDecW (hT : Tab rootW) : PK Tryd.prog := pkDW _ (dw_all hT)
end

end Go.Proofs.YtfjfmcnnakfjnaaDoor


/-
  Plain facts of hexadecimal texts. No program is named here.
-/

namespace Go.Proofs.YtfjfmcnnakfjnaaDoor

/-- A hexadecimal digit. -/
def hexd (n : Nat) : UInt8 := UInt8.ofNat (if n < 10 then 48 + n else 87 + n)
def hexP (c : UInt8) : List UInt8 := [hexd (c.toNat / 16), hexd (c.toNat % 16)]
/-- The text of bytes. -/
def hexL : List UInt8 → List UInt8
  | [] => []
  | c :: r => hexP c ++ hexL r
theorem hexL_app : ∀ a b, hexL (a ++ b) = hexL a ++ hexL b
  | [], _ => rfl
  | c :: r, b => by simp [hexL, hexL_app r b]
theorem hexL_len : ∀ l, (hexL l).length = 2 * l.length
  | [] => rfl
  | c :: r => by simp [hexL, hexP, hexL_len r]; omega
def isHex (c : UInt8) : Bool := (decide (48 ≤ c.toNat) && decide (c.toNat ≤ 57)) || (decide (97 ≤ c.toNat) && decide (c.toNat ≤ 102))
/-- A digit's value. -/
def hexv (c : UInt8) : Nat := if 97 ≤ c.toNat then c.toNat - 87 else c.toNat - 48
def pairs : List UInt8 → List UInt8
  | x :: y :: r => UInt8.ofNat (16 * hexv x + hexv y) :: pairs r
  | _ => []
/-- The bytes of a text. -/
def unhexL (l : List UInt8) : Option (List UInt8) := if l.length % 2 = 0 ∧ l.all isHex = true then some (pairs l) else none
theorem hexv_lt {c : UInt8} (h : isHex c = true) : hexv c < 16 := by
  unfold isHex at h; unfold hexv; simp at h; split <;> omega
theorem hexd_nat {n : Nat} (h : n < 16) : (hexd n).toNat = if n < 10 then 48 + n else 87 + n := by
  unfold hexd; simp; split <;> omega
theorem hexd_isHex {n : Nat} (h : n < 16) : isHex (hexd n) = true := by
  unfold isHex; rw [hexd_nat h]; simp; split <;> omega
theorem hexv_hexd {n : Nat} (h : n < 16) : hexv (hexd n) = n := by
  unfold hexv; rw [hexd_nat h]; split <;> split <;> omega
theorem hexd_hexv {c : UInt8} (h : isHex c = true) : hexd (hexv c) = c := by
  have h1 := hexv_lt h
  apply UInt8.toNat_inj.1
  rw [hexd_nat h1]
  unfold isHex at h; simp at h
  by_cases hc : 97 ≤ c.toNat
  · have e : hexv c = c.toNat - 87 := by unfold hexv; rw [if_pos hc]
    rw [e, if_neg (by omega)]; omega
  · have e : hexv c = c.toNat - 48 := by unfold hexv; rw [if_neg hc]
    rw [e, if_pos (by omega)]; omega
theorem hexL_isHex : ∀ l, (hexL l).all isHex = true
  | [] => rfl
  | c :: r => by
    have h1 : c.toNat < 256 := c.toNat_lt
    simp only [hexL, hexP, List.cons_append, List.nil_append, List.all_cons, hexL_isHex r, hexd_isHex (show c.toNat / 16 < 16 by omega), hexd_isHex (show c.toNat % 16 < 16 by omega)]; rfl
theorem pairs_hexL : ∀ l, pairs (hexL l) = l
  | [] => rfl
  | c :: r => by
    have h1 : c.toNat < 256 := c.toNat_lt
    simp only [hexL, hexP, List.cons_append, List.nil_append, pairs, pairs_hexL r, hexv_hexd (show c.toNat / 16 < 16 by omega), hexv_hexd (show c.toNat % 16 < 16 by omega)]
    rw [show 16 * (c.toNat / 16) + c.toNat % 16 = c.toNat by omega]
    simp
theorem unhex_hex (l : List UInt8) : unhexL (hexL l) = some l := by
  unfold unhexL
  rw [if_pos ⟨by rw [hexL_len]; omega, hexL_isHex l⟩, pairs_hexL]
theorem hexL_pairs : ∀ (n : Nat) (l : List UInt8), l.length = 2 * n → l.all isHex = true → hexL (pairs l) = l
  | 0, l, h, _ => by rw [List.length_eq_zero_iff.1 (by omega : l.length = 0)]; rfl
  | n + 1, [], h, _ => by simp at h
  | n + 1, [x], h, _ => by simp at h; omega
  | n + 1, x :: y :: r, h, ha => by
    simp only [List.all_cons, Bool.and_eq_true] at ha
    have hx := hexv_lt ha.1; have hy := hexv_lt ha.2.1
    have e : (UInt8.ofNat (16 * hexv x + hexv y)).toNat = 16 * hexv x + hexv y := by simp; omega
    simp only [pairs, hexL, hexP, e, hexL_pairs n r (by simp at h; omega) ha.2.2]
    rw [show (16 * hexv x + hexv y) / 16 = hexv x by omega, show (16 * hexv x + hexv y) % 16 = hexv y by omega, hexd_hexv ha.1, hexd_hexv ha.2.1]
    rfl
theorem hex_unhex {l b : List UInt8} (h : unhexL l = some b) : hexL b = l := by
  unfold unhexL at h
  split at h
  · rename_i hc
    cases h
    exact hexL_pairs (l.length / 2) l (by omega) hc.2
  · cases h
theorem pairs_len : ∀ (l : List UInt8), (pairs l).length = l.length / 2
  | [] => rfl
  | [x] => by simp [pairs]
  | x :: y :: r => by simp only [pairs, List.length_cons, pairs_len r]; omega
end Go.Proofs.YtfjfmcnnakfjnaaDoor


/-
  The document's text of bytes: the walk.
-/




namespace Go.Proofs.YtfjfmcnnakfjnaaDoor

open Go.RowKit

set_option maxRecDepth 100000

/-- A byte, and bytes, as values. -/
abbrev u8 (c : UInt8) : Value := .int .u8 (c.toNat : Int)
theorem info_u8 : (Tryd.prog.info? 5).map (fun i => (i.zero, i.size, i.bytes)) = some (some (.int .u8 0), 1, 1) := by kernel_rfl
/-- Bytes that the call owns, told as a string. -/
theorem conv_own {w : World} {base n : Nat} {v : Value} {l : List UInt8} (h : w.ownsRow base 5 1 v n (l.map u8)) :
    (convert 51 9 v).run Tryd.prog w = .ok (.string ⟨l.toArray⟩) w := by
  have hl : l.length = n := by have := h.1; simpa using this
  rcases Nat.eq_zero_or_pos n with h0 | h0
  · have he : l = [] := List.length_eq_zero_iff.1 (by omega)
    subst he
    subst h0
    rcases h.2 with ⟨rfl, _⟩ | ⟨g, cap, cur, rfl, _⟩
    · rw [run_convert_bytes_string w 51 9 5 none 0 0 Tryd.underlying51 Tryd.underlying5 Tryd.underlying9]
      simp [Conv.bytesToString]; rfl
    · exact run_convert_bytes_back (P := Tryd.prog) w 51 9 5 ⟨g, 0, none⟩ cap [] Tryd.underlying51 Tryd.underlying5 Tryd.underlying9 (fun j hj => by simp at hj)
  · obtain ⟨g, cap, rfl, _, _⟩ := h.form h0
    have hc := h.cells (g := g) rfl
    subst hl
    exact run_convert_bytes_back (P := Tryd.prog) w 51 9 5 ⟨g, 0, none⟩ cap l Tryd.underlying51 Tryd.underlying5 Tryd.underlying9 (fun j hj => hc j _ (by simp [hj]))
/-- Behind an append to a row of the call's own. -/
theorem own_next {W wr w' : World} {v v' : Value} {n : Nat} {l : List UInt8} {x : Int} {c : UInt8} (hx : x = (c.toNat : Int)) (hb : Below W.heap.size W wr) (h0 : (wr.alloc (.cells #[.int .u8 x] 5)).ownsRow W.heap.size 5 1 v n (l.map u8))
    (h1 : w'.ownsRow W.heap.size 5 1 v' (n + 1) (l.map u8 ++ [.int .u8 x])) (hg : (wr.alloc (.cells #[.int .u8 x] 5)).grownBy w' v.ownBlock) :
    w'.ownsRow W.heap.size 5 1 v' (n + 1) ((l ++ [c]).map u8) ∧ Below W.heap.size W w' := by
  subst hx
  refine ⟨by rw [List.map_append]; exact h1, ?_⟩
  have hb2 := hb.alloc hb.size (.cells #[.int .u8 (c.toNat : Int)] 5)
  exact hb2.grown hg hb2.size fun k hk => (h0.lt k hk).1
/-- What the loops keep: i bytes are told, and k digits of the next one. -/
def HxL (bs : List UInt8) (i k : Nat) : List UInt8 := hexL (bs.take i) ++ (hexP (bs.getD i 0)).take k
def HxR (bs : List UInt8) (w : World) (i k : Nat) (v : Value) (wr : World) : Prop :=
  wr.ownsRow w.heap.size 5 1 v (2 * i + k) ((HxL bs i k).map u8) ∧ Below w.heap.size w wr
theorem HxL_0 (bs : List UInt8) (i : Nat) (h : i < bs.length) : HxL bs i 1 = HxL bs i 0 ++ [hexd (bs[i].toNat / 16)] := by
  unfold HxL; simp [hexP, List.getD, h]
theorem HxL_1 (bs : List UInt8) (i : Nat) (h : i < bs.length) : HxL bs i 2 = HxL bs i 1 ++ [hexd (bs[i].toNat % 16)] := by
  unfold HxL; simp [hexP, List.getD, h]
theorem HxL_2 (bs : List UInt8) (i : Nat) (h : i < bs.length) : HxL bs i 2 = HxL bs (i + 1) 0 := by
  unfold HxL
  rw [List.take_succ_eq_append_getElem h, hexL_app]; simp [hexP, hexL, List.getD, h]

set_option maxHeartbeats 4000000 in
theorem refHex_walk (blk off n c : Nat) (bs : List UInt8) (hn : bs.length = n) (hsm : n ≤ 1048576) (w : World) (hb : blk < w.heap.size)
    (hc : ∀ (j : Nat) x, bs[j]? = some x → w.cell? ⟨blk, off + j, none⟩ = some (u8 x)) :
    Calls Tryd.prog 23 #[.slice (some ⟨blk, off, none⟩) n c] w fun e w' => e = .returned (.string ⟨(hexL bs).toArray⟩) ∧ Below w.heap.size w w' := by
  have HC := Lib.hid hc; clear hc
  obtain ⟨i0, hi, hz0, hz1, hz2⟩ := info_parts info_u8
  have HI := Lib.hid hi
  clear hi
  go_enter Tryd.func23, Tryd.ntmps23
  go_wp2
  go_loopw [3, 4] (fun v i wr => ∃ k : Nat, k ≤ n ∧ i = .int .i64 k ∧ HxR bs w k 0 v wr) (fun _ i _ => n - (intOf i).toNat)
  case atStart => exact ⟨0, Nat.zero_le _, rfl, World.ownsRow_nil _ _ _ _, Below.refl _ _⟩
  case round =>
    obtain ⟨k, hk, rfl, hR⟩ := hrel
    by_cases hlt : k < n
    · obtain ⟨wo, rfl⟩ : ∃ wo : World, wo = wr := ⟨_, rfl⟩
      go_wp2
      go_loopw [3, 5] (fun v j wi => ∃ q : Nat, q ≤ 2 ∧ j = .int .i64 q ∧ HxR bs w k q v wi) (fun _ j _ => 2 - (intOf j).toNat)
      case atStart => exact ⟨0, by omega, rfl, hR⟩
      case round =>
        obtain ⟨wi, rfl⟩ : ∃ wi : World, wi = wr := ⟨_, rfl⟩
        obtain ⟨q, hq, rfl, hown, hbi⟩ := hrel
        have hx : bs[k]? = some bs[k] := List.getElem?_eq_getElem (by omega)
        have hcell : wi.cell? ⟨blk, off + k, none⟩ = some (.int .u8 (bs[k].toNat : Int)) := (hbi.cell (p := ⟨blk, off + k, none⟩) hb).trans (HC.out k _ hx)
        have hy : bs[k].toNat < 256 := bs[k].toNat_lt
        clear hR hx
        rcases (by omega : q = 0 ∨ q = 1 ∨ q = 2) with rfl | rfl | rfl
        · have hm : bs[k].toNat / 16 < 10 ∨ 10 ≤ bs[k].toNat / 16 := by omega
          have hkb : ((0 : Int) == 1) = false := rfl
          rcases hm with hm | hm
          · have hm1 : ¬ (9 : Int) < ((bs[k].toNat : Int) / 16) := by omega
            go_wp2_with (at_builtin; (refine wpList_append_own _ rfl _ _ 51 rfl w.heap.size 5 i0 (.int .u8 0) 1 1 Tryd.underlying51 HI.out hz0 hz1 hz2 rfl (by decide) _ _ _ rfl (hown.alloc _) ⟨wi.heap.size, 0, none⟩ 1 1 [.int .u8 (48 + ((bs[k].toNat : Int) / 16))] rfl rfl ?c1pa ?c2pa ?c3pa ?c4pa ?c5pa ?_))
            try case c1pa => exact World.news_of_block (heap_alloc_new _ _)
            case c2pa => first | rfl | (intro u hu; rw [List.mem_singleton] at hu; subst hu; rfl)
            case c3pa => unfold maxLen; omega
            case c4pa => omega
            case c5pa => have := hbi.size; simp; omega
            intro v' w1 hown1 hgrow1 _
            have hnx := own_next (c := hexd (bs[k].toNat / 16)) (by rw [hexd_nat (by omega)]; split <;> omega) hbi (hown.alloc _) hown1 hgrow1
            rw [← HxL_0 bs k (by omega)] at hnx
            clear hown hown1 hgrow1
            go_wp2
            go_roundw
            case rel => exact ⟨1, by omega, by go_num, hnx⟩
            case measure => simp [intOf]
          · have hm1 : (9 : Int) < ((bs[k].toNat : Int) / 16) := by omega
            go_wp2_with (at_builtin; (refine wpList_append_own _ rfl _ _ 51 rfl w.heap.size 5 i0 (.int .u8 0) 1 1 Tryd.underlying51 HI.out hz0 hz1 hz2 rfl (by decide) _ _ _ rfl (hown.alloc _) ⟨wi.heap.size, 0, none⟩ 1 1 [.int .u8 (87 + ((bs[k].toNat : Int) / 16))] rfl rfl ?c1pb ?c2pb ?c3pb ?c4pb ?c5pb ?_))
            try case c1pb => exact World.news_of_block (heap_alloc_new _ _)
            case c2pb => first | rfl | (intro u hu; rw [List.mem_singleton] at hu; subst hu; rfl)
            case c3pb => unfold maxLen; omega
            case c4pb => omega
            case c5pb => have := hbi.size; simp; omega
            intro v' w1 hown1 hgrow1 _
            have hnx := own_next (c := hexd (bs[k].toNat / 16)) (by rw [hexd_nat (by omega)]; split <;> omega) hbi (hown.alloc _) hown1 hgrow1
            rw [← HxL_0 bs k (by omega)] at hnx
            clear hown hown1 hgrow1
            go_wp2
            go_roundw
            case rel => exact ⟨1, by omega, by go_num, hnx⟩
            case measure => simp [intOf]
        · have hm : bs[k].toNat % 16 < 10 ∨ 10 ≤ bs[k].toNat % 16 := by omega
          have hkb : ((1 : Int) == 1) = true := rfl
          rcases hm with hm | hm
          · have hm1 : ¬ (9 : Int) < ((bs[k].toNat : Int) % 16) := by omega
            go_wp2_with (at_builtin; (refine wpList_append_own _ rfl _ _ 51 rfl w.heap.size 5 i0 (.int .u8 0) 1 1 Tryd.underlying51 HI.out hz0 hz1 hz2 rfl (by decide) _ _ _ rfl (hown.alloc _) ⟨wi.heap.size, 0, none⟩ 1 1 [.int .u8 (48 + ((bs[k].toNat : Int) % 16))] rfl rfl ?c1qa ?c2qa ?c3qa ?c4qa ?c5qa ?_))
            try case c1qa => exact World.news_of_block (heap_alloc_new _ _)
            case c2qa => first | rfl | (intro u hu; rw [List.mem_singleton] at hu; subst hu; rfl)
            case c3qa => unfold maxLen; omega
            case c4qa => omega
            case c5qa => have := hbi.size; simp; omega
            intro v' w1 hown1 hgrow1 _
            have hnx := own_next (c := hexd (bs[k].toNat % 16)) (by rw [hexd_nat (by omega)]; split <;> omega) hbi (hown.alloc _) hown1 hgrow1
            rw [← HxL_1 bs k (by omega)] at hnx
            clear hown hown1 hgrow1
            go_wp2
            go_roundw
            case rel => exact ⟨2, by omega, by go_num, hnx⟩
            case measure => simp [intOf]
          · have hm1 : (9 : Int) < ((bs[k].toNat : Int) % 16) := by omega
            go_wp2_with (at_builtin; (refine wpList_append_own _ rfl _ _ 51 rfl w.heap.size 5 i0 (.int .u8 0) 1 1 Tryd.underlying51 HI.out hz0 hz1 hz2 rfl (by decide) _ _ _ rfl (hown.alloc _) ⟨wi.heap.size, 0, none⟩ 1 1 [.int .u8 (87 + ((bs[k].toNat : Int) % 16))] rfl rfl ?c1qb ?c2qb ?c3qb ?c4qb ?c5qb ?_))
            try case c1qb => exact World.news_of_block (heap_alloc_new _ _)
            case c2qb => first | rfl | (intro u hu; rw [List.mem_singleton] at hu; subst hu; rfl)
            case c3qb => unfold maxLen; omega
            case c4qb => omega
            case c5qb => have := hbi.size; simp; omega
            intro v' w1 hown1 hgrow1 _
            have hnx := own_next (c := hexd (bs[k].toNat % 16)) (by rw [hexd_nat (by omega)]; split <;> omega) hbi (hown.alloc _) hown1 hgrow1
            rw [← HxL_1 bs k (by omega)] at hnx
            clear hown hown1 hgrow1
            go_wp2
            go_roundw
            case rel => exact ⟨2, by omega, by go_num, hnx⟩
            case measure => simp [intOf]
        · have hnx : HxR bs w (k + 1) 0 u3 wi := by
            refine ⟨?_, hbi⟩
            rw [← HxL_2 bs k (by omega)]; exact hown
          clear hown
          go_wp2
          go_roundw
          case rel => exact ⟨k + 1, by omega, by go_num, hnx⟩
          case measure => simp [intOf]; omega
    · obtain ⟨hown, hbi⟩ := hR
      have hk' : k = n := by omega
      have hL : HxL bs k 0 = hexL bs := by
        unfold HxL; rw [List.take_of_length_le (by omega)]; simp
      rw [hL] at hown
      have hcv := conv_own hown
      clear hown
      go_wp2
      go_ret
      exact ⟨rfl, hbi⟩
end Go.Proofs.YtfjfmcnnakfjnaaDoor


/-
  The text of bytes: the walk.
-/


namespace Go.Proofs.YtfjfmcnnakfjnaaDoor

open Go.RowKit

set_option maxRecDepth 100000

theorem refHex_empty (A : Option Addr) (c : Nat) (w : World) :
    Calls Tryd.prog 23 #[.slice A 0 c] w fun e w' => e = .returned (.string ⟨#[]⟩) ∧ Below w.heap.size w w' := by
  go_enter Tryd.func23, Tryd.ntmps23
  go_wp2
  go_loopw [3, 4] (fun v i wr => v = .slice none 0 0 ∧ i = .int .i64 ((0 : Nat) : Int) ∧ wr = w) (fun _ i _ => 0)
  case atStart => exact ⟨rfl, rfl, rfl⟩
  case round =>
    obtain ⟨rfl, rfl, rfl⟩ := hrel
    have hcv := conv_own (l := []) (World.ownsRow_nil wr wr.heap.size 5 1)
    go_wp2
    go_ret
    exact ⟨rfl, Below.refl _ _⟩

theorem one2 (a b : Int) : ∀ u ∈ (#[Value.int .u8 a, .int .u8 b] : Array Value).toList, u.oneCell' = true := by
  intro u hu
  simp at hu
  rcases hu with rfl | rfl <;> rfl
theorem bits15_fin : ∀ x : Fin 256, bits BinOp.and IntKind.u8 (x.val : Int) 15 = ((x.val % 16 : Nat) : Int) := by decide +kernel
theorem bits15 (x : Nat) (h : x < 256) : bits BinOp.and IntKind.u8 (x : Int) 15 = ((x % 16 : Nat) : Int) := bits15_fin ⟨x, h⟩
def digs : ByteArray := { data := #[48, 49, 50, 51, 52, 53, 54, 55, 56, 57, 97, 98, 99, 100, 101, 102] }
theorem digs_fin : ∀ p : Fin 16, digs.data.toList.getD p.val 0 = hexd p.val := by decide +kernel
theorem digs_at (p : Nat) (h : p < 16) (h' : p < digs.size) : digs[p]'h' = hexd p := by
  have e : digs[p]'h' = digs.data.toList.getD p 0 := by
    show digs.data[p] = _
    rw [List.getD_eq_getElem?_getD, Array.getElem?_toList, Array.getElem?_eq_getElem (by exact h')]; rfl
  rw [e]; exact digs_fin ⟨p, h⟩
/-- Behind an append of two bytes to a row of the call's own. -/
theorem own_next2 {W wr w' : World} {v v' : Value} {n : Nat} {l : List UInt8} {c d : UInt8} (hb : Below W.heap.size W wr) (h0 : (wr.drew.alloc (.cells #[.int .u8 (c.toNat : Int), .int .u8 (d.toNat : Int)] 5)).ownsRow W.heap.size 5 1 v n (l.map u8))
    (h1 : w'.ownsRow W.heap.size 5 1 v' (n + 2) (l.map u8 ++ [.int .u8 (c.toNat : Int), .int .u8 (d.toNat : Int)])) (hg : (wr.drew.alloc (.cells #[.int .u8 (c.toNat : Int), .int .u8 (d.toNat : Int)] 5)).grownBy w' v.ownBlock) :
    w'.ownsRow W.heap.size 5 1 v' (n + 2) ((l ++ [c, d]).map u8) ∧ Below W.heap.size W w' := by
  refine ⟨by rw [List.map_append]; exact h1, ?_⟩
  have hb2 := hb.drew.alloc hb.drew.size (.cells #[.int .u8 (c.toNat : Int), .int .u8 (d.toNat : Int)] 5)
  exact hb2.grown hg hb2.size fun k hk => (h0.lt k hk).1
set_option maxHeartbeats 4000000 in
theorem hex_walk (blk off n c : Nat) (bs : List UInt8) (hn : bs.length = n) (hsm : n ≤ 1048576) (w : World) (hb : blk < w.heap.size)
    (hc : ∀ (j : Nat) x, bs[j]? = some x → w.cell? ⟨blk, off + j, none⟩ = some (u8 x)) :
    Calls Tryd.prog 22 #[.slice (some ⟨blk, off, none⟩) n c] w fun e w' => e = .returned (.string ⟨(hexL bs).toArray⟩) ∧ Below w.heap.size w w' := by
  have HC := Lib.hid hc; clear hc
  obtain ⟨i0, hi, hz0, hz1, hz2⟩ := info_parts info_u8
  have HI := Lib.hid hi
  clear hi
  go_enter Tryd.func22, Tryd.ntmps22
  go_wp2_with (at_make; refine wpList_make_own _ rfl _ _ 51 rfl w.heap.size 5 i0 (.int .u8 0) 1 Tryd.underlying51 HI.out hz0 hz1 .i64 .i64 (2 * (n : Int)) (2 * n) rfl rfl (by omega) ?m1 ?m2 ?m3 ?_)
  case m1 => rw [hz2]; omega
  case m2 => unfold maxLen; omega
  case m3 => exact Nat.le_refl _
  intro w1 hown0 hg0
  have hb0 : Below w.heap.size w w1 := (Below.refl _ w).grown hg0 (Nat.le_refl _) (fun k hk => by cases hk)
  clear hg0
  go_wp2
  go_loopw [3, 12] (fun v i wr => ∃ k : Nat, k ≤ n ∧ i = .int .i64 k ∧ HxR bs w k 0 v wr) (fun _ i _ => n - (intOf i).toNat)
  case atStart => exact ⟨0, Nat.zero_le _, rfl, hown0, hb0⟩
  case round =>
    obtain ⟨wi, rfl⟩ : ∃ wi : World, wi = wr := ⟨_, rfl⟩
    obtain ⟨k, hk, rfl, hown, hbi⟩ := hrel
    clear hown0 hb0
    by_cases hlt : k < n
    · have hx : bs[k]? = some bs[k] := List.getElem?_eq_getElem (by omega)
      have hcell : wi.cell? ⟨blk, off + k, none⟩ = some (.int .u8 (bs[k].toNat : Int)) := (hbi.cell (p := ⟨blk, off + k, none⟩) hb).trans (HC.out k _ hx)
      have hy : bs[k].toNat < 256 := bs[k].toNat_lt
      obtain ⟨p, hp⟩ : ∃ p : Nat, bs[k].toNat / 16 = p := ⟨_, rfl⟩
      obtain ⟨q, hq⟩ : ∃ q : Nat, bs[k].toNat % 16 = q := ⟨_, rfl⟩
      have hand := bits15 bs[k].toNat hy
      rw [hq] at hand
      have hdiv : ((bs[k].toNat : Int) / 16) = (p : Int) := by omega
      have p0 : (0 : Int) ≤ (p : Int) := by omega
      have p1 : (p : Int) < 16 := by omega
      have q0 : (0 : Int) ≤ (q : Int) := by omega
      have q1 : (q : Int) < 16 := by omega
      have HP := Lib.hid hp; have HQ := Lib.hid hq; clear hp hq
      have s3 : 2 * k + 0 + 2 ≤ maxLen := by unfold maxLen; omega
      have s4 : (2 * k + 0 + 2) * 1 ≤ 140737488355328 := by omega
      have s5 : w.heap.size ≤ (wi.heap.size + 1) := by have := hbi.size; omega
      have S3 := Lib.hid s3; have S4 := Lib.hid s4; have S5 := Lib.hid s5
      clear s3 s4 s5
      go_wp2
      go_region_law ((refine step_append_lies _ (by rfl) _ _ 51 (by rfl) w.heap.size 5 i0 (.int .u8 0) 1 1 Tryd.underlying51 HI.out hz0 hz1 hz2 rfl (by decide) _ _ _ (by rfl) (hown.drew.alloc _) ⟨wi.heap.size, 0, none⟩ 2 2 _ (by rfl) (by rfl) (World.news_of_block (heap_alloc_new _ _)) (one2 _ _) (by omega) S3.out S4.out (by simp; exact S5.out) (wi.heap.size + 1) (by simp) ?_; intro g cap w2 hown2 hgrow2 hat2 hlt2))
      all_goals
        have hnx := own_next2 (c := digs[p]'(by rw [show digs.size = 16 from rfl]; omega)) (d := digs[q]'(by rw [show digs.size = 16 from rfl]; omega)) hbi (hown.drew.alloc _) hown2 hgrow2
        rw [digs_at p (by omega), digs_at q (by omega), ← HP.out, ← HQ.out] at hnx
        have hR : HxR bs w (k + 1) 0 (.slice (some ⟨g, 0, none⟩) (2 * k + 0 + 2) cap) w2 := by
          refine ⟨?_, hnx.2⟩
          rw [← HxL_2 bs k (by omega), HxL_1 bs k (by omega), HxL_0 bs k (by omega), List.append_assoc]
          exact hnx.1
        clear hnx hown hown2 hgrow2 hat2 hlt2
        go_wp2
        go_roundw
        case rel => exact ⟨k + 1, by omega, by go_num, hR⟩
        case measure => simp [intOf]; omega
    · have hk' : k = n := by omega
      have hL : HxL bs k 0 = hexL bs := by
        unfold HxL; rw [List.take_of_length_le (by omega)]; simp
      rw [hL] at hown
      have hcv := conv_own hown
      clear hown
      go_wp2
      go_ret
      exact ⟨rfl, hbi⟩
set_option maxHeartbeats 1000000 in
theorem hex_empty (A : Option Addr) (c : Nat) (w : World) :
    Calls Tryd.prog 22 #[.slice A 0 c] w fun e w' => e = .returned (.string ⟨#[]⟩) ∧ Below w.heap.size w w' := by
  obtain ⟨i0, hi, hz0, hz1, hz2⟩ := info_parts info_u8
  have HI := Lib.hid hi
  clear hi
  go_enter Tryd.func22, Tryd.ntmps22
  go_wp2_with (at_make; refine wpList_make_own _ rfl _ _ 51 rfl w.heap.size 5 i0 (.int .u8 0) 1 Tryd.underlying51 HI.out hz0 hz1 .i64 .i64 0 0 rfl rfl rfl ?m1 ?m2 ?m3 ?_)
  case m1 => omega
  case m2 => unfold maxLen; omega
  case m3 => exact Nat.le_refl _
  intro w1 hown0 hg0
  have hb0 : Below w.heap.size w w1 := (Below.refl _ w).grown hg0 (Nat.le_refl _) (fun k hk => by cases hk)
  clear hg0
  have hcv := conv_own (l := []) hown0
  go_wp2
  go_loopw [3, 12] (fun v i wr => v = .slice (some ⟨w.heap.size, 0, none⟩) 0 0 ∧ i = .int .i64 ((0 : Nat) : Int) ∧ wr = w1) (fun _ i _ => 0)
  case atStart => exact ⟨rfl, rfl, rfl⟩
  case round =>
    obtain ⟨rfl, rfl, rfl⟩ := hrel
    go_wp2
    go_ret
    exact ⟨rfl, hb0⟩
end Go.Proofs.YtfjfmcnnakfjnaaDoor


/-
  The bytes of a text: the walk.
-/




namespace Go.Proofs.YtfjfmcnnakfjnaaDoor

open Go.RowKit

set_option maxRecDepth 100000

/-- Bytes, the last of them perhaps by half. -/
def half : List UInt8 → List Nat
  | x :: y :: r => (16 * hexv x + hexv y) :: half r
  | [x] => [hexv x]
  | [] => []
theorem half_len : ∀ (l : List UInt8), (half l).length = (l.length + 1) / 2
  | [] => rfl
  | [x] => by simp [half]
  | x :: y :: r => by simp only [half, List.length_cons, half_len r]; omega
theorem half_even : ∀ (n : Nat) (a : List UInt8) (c : UInt8), a.length = 2 * n → half (a ++ [c]) = half a ++ [hexv c]
  | 0, a, c, h => by rw [List.length_eq_zero_iff.1 (by omega : a.length = 0)]; rfl
  | n + 1, [], c, h => by simp at h
  | n + 1, [x], c, h => by simp at h; omega
  | n + 1, x :: y :: r, c, h => by simp only [List.cons_append, half, half_even n r c (by simp at h; omega)]
theorem half_odd : ∀ (n : Nat) (a : List UInt8) (c : UInt8), a.length = 2 * n + 1 → a.all isHex = true →
    (half a).getD n 0 < 16 ∧ half (a ++ [c]) = (half a).set n (16 * (half a).getD n 0 + hexv c)
  | 0, [], c, h, _ => by simp at h
  | 0, [x], c, h, ha => ⟨by simp at ha; simpa [half] using hexv_lt ha, rfl⟩
  | 0, x :: y :: r, c, h, _ => by simp at h
  | n + 1, [], c, h, _ => by simp at h
  | n + 1, [x], c, h, _ => by simp at h
  | n + 1, x :: y :: r, c, h, ha => by
    simp only [List.all_cons, Bool.and_eq_true] at ha
    obtain ⟨h1, h2⟩ := half_odd n r c (by simp at h; omega) ha.2.2
    refine ⟨by simpa [half] using h1, ?_⟩
    simp only [List.cons_append, half, h2]
    simp
theorem half_pairs : ∀ (n : Nat) (l : List UInt8), l.length = 2 * n → l.all isHex = true → half l = (pairs l).map UInt8.toNat
  | 0, l, h, _ => by rw [List.length_eq_zero_iff.1 (by omega : l.length = 0)]; rfl
  | n + 1, [], h, _ => by simp at h
  | n + 1, [x], h, _ => by simp at h; omega
  | n + 1, x :: y :: r, h, ha => by
    simp only [List.all_cons, Bool.and_eq_true] at ha
    have hx := hexv_lt ha.1; have hy := hexv_lt ha.2.1
    have e : (UInt8.ofNat (16 * hexv x + hexv y)).toNat = 16 * hexv x + hexv y := by simp; omega
    simp only [half, pairs, List.map_cons, e, half_pairs n r (by simp at h; omega) ha.2.2]
/-- The row of bytes behind k digits. -/
def rowN (l : List UInt8) (n k : Nat) : List Nat := half (l.take k) ++ List.replicate (n - (half (l.take k)).length) 0
def rowV (l : List UInt8) (n k : Nat) : Array Value := ((rowN l n k).map fun y : Nat => Value.int .u8 ((y : Nat) : Int)).toArray
theorem rowN_len {l : List UInt8} {n k : Nat} (h : l.length = 2 * n) (hk : k ≤ l.length) : (rowN l n k).length = n := by
  unfold rowN; rw [List.length_append, List.length_replicate, half_len, List.length_take]; omega
theorem rowN_step {l : List UInt8} {n k : Nat} (h : l.length = 2 * n) (hk : k < l.length) (ha : (l.take k).all isHex = true) :
    (rowN l n k).getD (k / 2) 0 < 16 ∧ rowN l n (k + 1) = (rowN l n k).set (k / 2) (16 * (rowN l n k).getD (k / 2) 0 + hexv l[k]) := by
  have ht : (l.take k).length = k := by rw [List.length_take]; omega
  have hs : l.take (k + 1) = l.take k ++ [l[k]] := List.take_succ_eq_append_getElem hk
  unfold rowN
  rw [hs]
  rcases Nat.mod_two_eq_zero_or_one k with hp | hp
  · have hl : (half (l.take k)).length = k / 2 := by rw [half_len, ht]; omega
    have hz : n - k / 2 = (n - k / 2 - 1) + 1 := by omega
    rw [half_even (k / 2) _ _ (by omega), hl, List.length_append, hl, hz, List.replicate_succ]
    have hg : (half (l.take k) ++ 0 :: List.replicate (n - k / 2 - 1) 0).getD (k / 2) 0 = 0 := by
      rw [List.getD_eq_getElem?_getD, List.getElem?_append_right (by omega), hl]; simp
    rw [hg]
    refine ⟨by omega, ?_⟩
    rw [List.set_append_right _ _ (by omega), hl]
    simp only [Nat.sub_self, List.set_cons_zero, List.length_singleton, List.append_assoc, List.cons_append, List.nil_append]
    congr 3 <;> omega
  · have hl : (half (l.take k)).length = k / 2 + 1 := by rw [half_len, ht]; omega
    obtain ⟨h1, h2⟩ := half_odd (k / 2) (l.take k) l[k] (by omega) ha
    have hg : (half (l.take k) ++ List.replicate (n - (half (l.take k)).length) 0).getD (k / 2) 0 = (half (l.take k)).getD (k / 2) 0 := by
      rw [List.getD_eq_getElem?_getD, List.getElem?_append_left (by omega), ← List.getD_eq_getElem?_getD]
    rw [hg]
    refine ⟨h1, ?_⟩
    rw [h2, List.length_set, List.set_append_left _ _ (by omega)]
theorem rowN_full {l : List UInt8} {n : Nat} (h : l.length = 2 * n) (ha : l.all isHex = true) : rowN l n l.length = (pairs l).map UInt8.toNat := by
  unfold rowN
  rw [List.take_of_length_le (Nat.le_refl _), half_pairs n l h ha]
  rw [List.length_map, pairs_len, show n - l.length / 2 = 0 by omega]; simp
theorem hexv_val {c : UInt8} (h : isHex c = true) : valI (c.toNat : Int) = (hexv c : Int) := by
  unfold isHex at h; simp at h
  unfold valI hexv
  by_cases h1 : 97 ≤ c.toNat
  · rw [if_pos (by omega), if_pos h1]; omega
  · rw [if_neg (by omega), if_pos (by omega), if_neg h1]; omega
theorem not_hex {r : Int} (h : ¬ (48 ≤ r ∧ r ≤ 57)) (h2 : ¬ (97 ≤ r ∧ r ≤ 102)) : valI r = 16 := by
  unfold valI; rw [if_neg h2, if_neg h]
theorem rune_nothex (s : ByteArray) (pos : Nat) (h : pos < s.size) (hd : isHex s[pos] = false) : valI ((Utf8.decode s pos).1 : Int) = 16 := by
  by_cases ha : (s[pos]'h).toNat < 128
  · rw [decode_ascii s pos h ha]
    unfold isHex at hd; simp at hd
    exact not_hex (by omega) (by omega)
  · have := (decode_high s pos h (by omega)).1
    exact not_hex (by omega) (by omega)
theorem shl_or_fin : ∀ y d : Fin 16, bits BinOp.or IntKind.u8 ((y.val : Int) * 16) (d.val : Int) = ((16 * y.val + d.val : Nat) : Int) := by decide +kernel
theorem shl_or {y d : Nat} (hy : y < 16) (hd : d < 16) : bits BinOp.or IntKind.u8 ((y : Int) * 16) (d : Int) = ((16 * y + d : Nat) : Int) := shl_or_fin ⟨y, hy⟩ ⟨d, hd⟩

theorem iterPos_at {w : World} {k p : Nat} {s : ByteArray} (h : w.heap[k]? = some (.stringIter s p)) : w.iterPos k = p := by simp [World.iterPos, h]
theorem own_block {w : World} {base g n : Nat} {e : TypeId} {xs : List Value} (h : w.ownsRow base e 1 (.slice (some ⟨g, 0, none⟩) n n) n xs) : Blk w g xs.toArray e := by
  rcases h.2 with ⟨h1, _⟩ | ⟨g', cap, cur, h1, _, hg, _, _, hs, ht⟩
  · simp at h1
  · simp only [Value.slice.injEq, Option.some.injEq, Addr.mk.injEq, and_true, true_and] at h1
    obtain ⟨rfl, rfl⟩ := h1
    unfold Blk
    rw [hg, ← ht, List.take_of_length_le (by simp [hs])]
theorem made_zero (n : Nat) : (madeCells #[Value.int .u8 0] n).toList = List.replicate n (.int .u8 0) := by
  apply List.ext_getElem
  · simp [madeCells]
  · intro i h1 h2
    simp [madeCells, Nat.mod_one]
theorem rowV_zero (l : List UInt8) (n : Nat) : rowV l n 0 = (List.replicate n (Value.int .u8 0)).toArray := by
  unfold rowV rowN; simp [half]
theorem rowV_get {l : List UInt8} {n k : Nat} (h : l.length = 2 * n) (hk : k < l.length) : (rowV l n k)[k / 2]? = some (.int .u8 (((rowN l n k).getD (k / 2) 0 : Nat) : Int)) := by
  have hlen := rowN_len h (Nat.le_of_lt hk)
  unfold rowV
  rw [List.getElem?_toArray, List.getElem?_map, List.getD_eq_getElem?_getD, List.getElem?_eq_getElem (show k / 2 < (rowN l n k).length by omega)]
  rfl
theorem rowV_set {l : List UInt8} {n k : Nat} (h : l.length = 2 * n) (hk : k < l.length) (ha : (l.take k).all isHex = true) :
    (rowV l n k).setIfInBounds (k / 2) (.int .u8 ((16 * (rowN l n k).getD (k / 2) 0 + hexv l[k] : Nat) : Int)) = rowV l n (k + 1) := by
  unfold rowV
  rw [(rowN_step h hk ha).2]
  simp [List.map_set]
/-- Are all bytes of a text digits? -/
def hexB (s : ByteArray) : Bool := s.data.toList.all isHex
set_option maxHeartbeats 4000000 in
theorem unhex_walk (s : ByteArray) (n : Nat) (hn : s.size = 2 * n) (hsm : n ≤ 1048576) (w : World) :
    Calls Tryd.prog 24 #[.string s] w fun e w' => Below w.heap.size w w' ∧
      ((hexB s = false ∧ e = .returned (.tuple #[.slice none 0 0, .bool false])) ∨
       (hexB s = true ∧ e = .returned (.tuple #[.slice (some ⟨w.heap.size, 0, none⟩) n n, .bool true]) ∧ Blk w' w.heap.size (((pairs s.data.toList).map u8).toArray) 5)) := by
  obtain ⟨i0, hi, hz0, hz1, hz2⟩ := info_parts info_u8
  have HI := Lib.hid hi
  clear hi
  have hl : s.data.toList.length = 2 * n := by rw [← hn]; simp
  have hmod : ((s.size : Nat) : Int) % 2 = 0 := by omega
  have hdiv : ((s.size : Nat) : Int) / 2 = (n : Int) := by omega
  go_enter Tryd.func24, Tryd.ntmps24
  go_wp2_with (at_make; refine wpList_make_full _ rfl _ _ 51 rfl w.heap.size 5 i0 (.int .u8 0) 1 Tryd.underlying51 HI.out hz0 hz1 .i64 .i64 (n : Int) (n : Int) n rfl rfl rfl rfl ?m1 ?m2 ?m3 ?_)
  case m1 => rw [hz2]; omega
  case m2 => unfold maxLen; omega
  case m3 => exact Nat.le_refl _
  intro w1 hown0 hg0
  have hb0 : Below w.heap.size w w1 := (Below.refl _ w).grown hg0 (Nat.le_refl _) (fun k hk => by cases hk)
  clear hg0
  go_wp2
  have hblk : Blk w1 w.heap.size (rowV s.data.toList n 0) 5 := by rw [rowV_zero, ← made_zero]; exact own_block hown0
  have hK : w.heap.size < w1.heap.size := hblk.lt
  have HB0 := Lib.hid hb0
  have HBL := Lib.hid hblk
  clear hown0 hb0 hblk
  generalize hKd : w1.heap.size = K at *
  go_loopw [] (fun wr => ∃ pos : Nat, pos ≤ s.size ∧ (s.data.toList.take pos).all isHex = true ∧ Blk wr w.heap.size (rowV s.data.toList n pos) 5 ∧ wr.heap[K]? = some (.stringIter s pos) ∧ Below w.heap.size w wr) (fun wr => s.size - wr.iterPos K)
  case atStart =>
    refine ⟨0, Nat.zero_le _, rfl, HBL.out.old _, ?_, HB0.out.alloc (by omega) _⟩
    rw [← hKd]; exact World.iter_heap w1 s 0
  case round =>
    obtain ⟨pos, hpos, hall, hblk, hit, hbw⟩ := hrel
    clear hKd
    by_cases hp : pos < s.size
    · by_cases hdig : isHex s[pos] = true
      · have hx : isHex (s.data.toList[pos]'(by simpa using hp)) = true := hdig
        obtain ⟨c, hc⟩ : ∃ c : UInt8, s[pos]'hp = c := ⟨_, rfl⟩
        have hst := rowV_set (n := n) hl (show pos < s.data.toList.length by simpa using hp) hall
        have hst2 := (rowN_step (n := n) hl (show pos < s.data.toList.length by simpa using hp) hall).1
        have hgt := rowV_get (n := n) hl (show pos < s.data.toList.length by simpa using hp)
        rw [show s.data.toList[pos]'(by simpa using hp) = c from hc] at hst
        rw [hc] at hdig
        have hlt := hexv_lt hdig
        have hv := hexv_val hdig
        have hasc : (s[pos]'hp).toNat < 128 := by
          rw [hc]; unfold isHex at hdig; simp at hdig; omega
        have hall2 : (s.data.toList.take (pos + 1)).all isHex = true := by
          rw [List.take_succ_eq_append_getElem (by simpa using hp), List.all_append, hall]
          simpa using hx
        have hval : ∀ w, Calls Tryd.prog 42 #[.int .i32 (c.toNat : Int)] w fun e w' => e = .returned (.int .i64 (hexv c : Int)) ∧ w' = w := fun w => by
          have h256 : c.toNat < 256 := c.toNat_lt
          have := value_any (c.toNat : Int) (by omega) (by omega) w
          rwa [hv] at this
        have hnx : ∀ ty, (Instr.next (.pointer (some ⟨K, 0, none⟩)) true ty).run Tryd.prog wr = .ok (.tuple #[.bool true, .int .i64 pos, .int .i32 (c.toNat : Int)]) (wr.iterAt K s (pos + 1)) := fun ty => by
          rw [Lib.run_next_ascii_at wr _ s pos ty hit hp hasc, hc]
        have hit2 := Lib.iterAt_heap wr K s pos (pos + 1) hit
        have hbw2 := Lib.below_iterAt hbw (k := K) (by omega) s (pos + 1)
        have h1 : Blk (wr.iterAt K s (pos + 1)) w.heap.size (rowV s.data.toList n pos) 5 := by unfold Blk; rw [Lib.iterAt_other _ _ _ _ _ (by omega)]; exact hblk
        have hcell := h1.cell (pos / 2)
        rw [hgt] at hcell
        have hfree := h1.free (pos / 2)
        generalize (rowN s.data.toList n pos).getD (pos / 2) 0 = y at *
        generalize hexv c = d at *
        have hor := shl_or hst2 hlt
        have HW := Lib.hid hit; have HIT := Lib.hid hit2; have HST := Lib.hid hst; have HOR := Lib.hid hor; have HALL := Lib.hid hall2
        have hy0 : (y : Int) < 16 := by omega
        have hd0 : (d : Int) < 16 := by omega
        clear hit hit2 hst hor hall hall2 hblk hgt hv hasc hc hx
        generalize wr.iterAt K s (pos + 1) = wi at *
        go_wp2_with (go_at_call 42; refine (hval _).mono ?_; rintro e w' ⟨rfl, rfl⟩)
        go_roundw
        case rel =>
          refine ⟨pos + 1, by omega, HALL.out, ?_, (Below.heap_setCell _ _ _ _ (by simp; omega)).trans HIT.out, hbw2.setCell (Nat.le_refl _) _⟩
          have hput := h1.put (i := pos / 2) (.int .u8 ((16 * y + d : Nat) : Int))
          rw [HST.out] at hput
          rw [HOR.out]
          exact hput
        case measure =>
          refine Nat.lt_of_le_of_lt (Nat.le_of_eq (congrArg (s.size - ·) (iterPos_at (s := s) (p := pos + 1) ?_))) ?_
          · exact (Below.heap_setCell _ _ _ _ (by simp; omega)).trans HIT.out
          · show _ < s.size - World.iterPos _ _
            rw [iterPos_at HW.out]; omega
      · have hv := rune_nothex s pos hp (by simpa using hdig)
        have hrl := decode_le s pos
        have hval : ∀ w, Calls Tryd.prog 42 #[.int .i32 ((Utf8.decode s pos).1 : Int)] w fun e w' => e = .returned (.int .i64 16) ∧ w' = w := fun w => by
          have := value_any ((Utf8.decode s pos).1 : Int) (by omega) (by omega) w
          rwa [hv] at this
        have hnx : ∀ ty, (Instr.next (.pointer (some ⟨K, 0, none⟩)) true ty).run Tryd.prog wr = _ := fun ty => Lib.run_next_any_at wr K s pos ty hit hp
        have hbw2 := Lib.below_iterAt hbw (k := K) (by omega) s (pos + (Utf8.decode s pos).2)
        have hno : s.data.toList.all isHex = false := by
          rw [Bool.eq_false_iff]
          intro h
          rw [List.all_eq_true] at h
          exact hdig (h _ (List.getElem_mem (show pos < s.data.toList.length by simpa using hp)))
        have HNO : Hid (hexB s = false) := Lib.hid hno
        clear hno hall hblk hit hv hrl
        generalize pos + (Utf8.decode s pos).2 = pos2 at *
        generalize ((Utf8.decode s pos).1 : Int) = rr at *
        go_wp2_with (go_at_call 42; refine (hval _).mono ?_; rintro e w' ⟨rfl, rfl⟩)
        go_ret2
        exact ⟨hbw2, .inl ⟨HNO.out, rfl⟩⟩
    · have he : pos = s.size := by omega
      subst he
      have hnx : ∀ ty, (Instr.next (.pointer (some ⟨K, 0, none⟩)) true ty).run Tryd.prog wr = _ := fun ty => Lib.run_next_end_at wr K s s.size ty hit hp
      have hall2 : s.data.toList.all isHex = true := by rwa [List.take_of_length_le (by simp)] at hall
      have hfin : rowV s.data.toList n s.size = ((pairs s.data.toList).map u8).toArray := by
        have h1 := rowN_full hl hall2
        rw [show s.data.toList.length = s.size by simp] at h1
        unfold rowV
        rw [h1, List.map_map]; rfl
      rw [hfin] at hblk
      have HALL : Hid (hexB s = true) := Lib.hid hall2
      clear hall hall2 hfin
      go_wp2
      go_ret2
      exact ⟨hbw, .inr ⟨HALL.out, rfl, hblk⟩⟩
set_option maxHeartbeats 1000000 in
theorem unhex_odd (s : ByteArray) (hn : s.size % 2 = 1) (w : World) :
    Calls Tryd.prog 24 #[.string s] w fun e w' => e = .returned (.tuple #[.slice none 0 0, .bool false]) ∧ w' = w := by
  have hmod : ((s.size : Nat) : Int) % 2 = 1 := by omega
  go_enter Tryd.func24, Tryd.ntmps24
  go_wp2
  go_ret2
  exact ⟨rfl, rfl⟩
end Go.Proofs.YtfjfmcnnakfjnaaDoor


/-
  The document's bytes of a text: the walk.
-/

namespace Go.Proofs.YtfjfmcnnakfjnaaDoor

open Go.RowKit

set_option maxRecDepth 100000

/-- Bytes, the last of them perhaps without its lower half. -/
def halfR : List UInt8 → List Nat
  | x :: y :: r => (16 * hexv x + hexv y) :: halfR r
  | [x] => [16 * hexv x]
  | [] => []
theorem halfR_len : ∀ (l : List UInt8), (halfR l).length = (l.length + 1) / 2
  | [] => rfl
  | [x] => by simp [halfR]
  | x :: y :: r => by simp only [halfR, List.length_cons, halfR_len r]; omega
theorem halfR_even : ∀ (n : Nat) (a : List UInt8) (c : UInt8), a.length = 2 * n → halfR (a ++ [c]) = halfR a ++ [16 * hexv c]
  | 0, a, c, h => by rw [List.length_eq_zero_iff.1 (by omega : a.length = 0)]; rfl
  | n + 1, [], c, h => by simp at h
  | n + 1, [x], c, h => by simp at h; omega
  | n + 1, x :: y :: r, c, h => by simp only [List.cons_append, halfR, halfR_even n r c (by simp at h; omega)]
theorem halfR_odd : ∀ (n : Nat) (a : List UInt8) (c : UInt8), a.length = 2 * n + 1 → a.all isHex = true →
    (halfR a).getD n 0 ≤ 240 ∧ halfR (a ++ [c]) = (halfR a).set n ((halfR a).getD n 0 + hexv c)
  | 0, [], c, h, _ => by simp at h
  | 0, [x], c, h, ha => ⟨by have := hexv_lt (c := x) (by simpa using ha); simp [halfR]; omega, rfl⟩
  | 0, x :: y :: r, c, h, _ => by simp at h
  | n + 1, [], c, h, _ => by simp at h
  | n + 1, [x], c, h, _ => by simp at h
  | n + 1, x :: y :: r, c, h, ha => by
    simp only [List.all_cons, Bool.and_eq_true] at ha
    obtain ⟨h1, h2⟩ := halfR_odd n r c (by simp at h; omega) ha.2.2
    refine ⟨by simpa [halfR] using h1, ?_⟩
    simp only [List.cons_append, halfR, h2]
    simp
theorem halfR_pairs : ∀ (n : Nat) (l : List UInt8), l.length = 2 * n → l.all isHex = true → halfR l = (pairs l).map UInt8.toNat
  | 0, l, h, _ => by rw [List.length_eq_zero_iff.1 (by omega : l.length = 0)]; rfl
  | n + 1, [], h, _ => by simp at h
  | n + 1, [x], h, _ => by simp at h; omega
  | n + 1, x :: y :: r, h, ha => by
    simp only [List.all_cons, Bool.and_eq_true] at ha
    have hx := hexv_lt ha.1; have hy := hexv_lt ha.2.1
    have e : (UInt8.ofNat (16 * hexv x + hexv y)).toNat = 16 * hexv x + hexv y := by simp; omega
    simp only [halfR, pairs, List.map_cons, e, halfR_pairs n r (by simp at h; omega) ha.2.2]
theorem take_snocB' (s : ByteArray) (k : Nat) (h : k < s.size) : s.data.toList.take (k + 1) = s.data.toList.take k ++ [s[k]] := by
  rw [List.take_succ_eq_append_getElem (by simpa using h)]; rfl
abbrev n8 (y : Nat) : Value := .int .u8 (y : Int)
def UrR (l : List UInt8) (w : World) (k : Nat) (v : Value) (wr : World) : Prop :=
  wr.ownsRow w.heap.size 5 1 v ((k + 1) / 2) ((halfR (l.take k)).map n8) ∧ (l.take k).all isHex = true ∧ Below w.heap.size w wr

set_option maxHeartbeats 4000000 in
theorem refUnhex_walk (s : ByteArray) (n : Nat) (hn : s.size = 2 * n) (hsm : n ≤ 1048576) (w : World) :
    Calls Tryd.prog 25 #[.string s] w fun e w' => Below w.heap.size w w' ∧
      ((hexB s = false ∧ e = .returned (.tuple #[.slice none 0 0, .bool false])) ∨
       (hexB s = true ∧ ∃ v, e = .returned (.tuple #[v, .bool true]) ∧ w'.ownsRow w.heap.size 5 1 v n ((pairs s.data.toList).map u8))) := by
  obtain ⟨i0, hi, hz0, hz1, hz2⟩ := info_parts info_u8
  have HI := Lib.hid hi
  clear hi
  have hl : s.data.toList.length = 2 * n := by rw [← hn]; simp
  have hmod : ((s.size : Nat) : Int) % 2 = 0 := by omega
  go_enter Tryd.func25, Tryd.ntmps25
  go_wp2
  go_loopw [4, 5] (fun v i wr => ∃ k : Nat, k ≤ s.size ∧ i = .int .i64 k ∧ UrR s.data.toList w k v wr) (fun _ i _ => s.size - (intOf i).toNat)
  case atStart => exact ⟨0, Nat.zero_le _, rfl, World.ownsRow_nil _ _ _ _, rfl, Below.refl _ _⟩
  case round =>
    obtain ⟨wi, rfl⟩ : ∃ wi : World, wi = wr := ⟨_, rfl⟩
    obtain ⟨k, hk, rfl, hown, hall, hbi⟩ := hrel
    by_cases hlt : k < s.size
    · have hll : k < s.data.toList.length := by simpa using hlt
      have ht : (s.data.toList.take k).length = k := by rw [List.length_take]; omega
      have hs := take_snocB' s k hlt
      have h256 : (s[k]'hlt).toNat < 256 := (s[k]'hlt).toNat_lt
      by_cases hd : isHex (s[k]'hlt) = true
      · have hall2 : (s.data.toList.take (k + 1)).all isHex = true := by
          rw [hs, List.all_append, hall]; simpa using hd
        have HALL := Lib.hid hall2
        have hlt16 := hexv_lt hd
        have hcls : (48 ≤ (s[k]'hlt).toNat ∧ (s[k]'hlt).toNat ≤ 57) ∨ (97 ≤ (s[k]'hlt).toNat ∧ (s[k]'hlt).toNat ≤ 102) := by
          unfold isHex at hd; simpa using hd
        rcases Nat.mod_two_eq_zero_or_one k with hp | hp
        · have hst := halfR_even (k / 2) (s.data.toList.take k) (s[k]'hlt) (by omega)
          rw [← hs] at hst
          have HST := Lib.hid hst
          have hpar : ((k : Int) % 2 == 0) = true := by rw [beq_iff_eq]; omega
          rcases hcls with hc | hc
          · have HV : Hid ((hexv (s[k]'hlt) : Int) = (s[k]'hlt).toNat - 48) := Lib.hid (by unfold hexv; rw [if_neg (by omega)]; omega)
            clear hst hs hall hall2 hd hlt16 ht
            go_wp2_with (at_builtin; (refine wpList_append_own _ rfl _ _ 51 rfl w.heap.size 5 i0 (.int .u8 0) 1 1 Tryd.underlying51 HI.out hz0 hz1 hz2 rfl (by decide) _ _ _ rfl (hown.alloc _) ⟨wi.heap.size, 0, none⟩ 1 1 [.int .u8 (16 * ((s[k]'hlt).toNat - 48 : Int))] rfl rfl ?c1p ?c2p ?c3p ?c4p ?c5p ?_))
            try case c1p => exact World.news_of_block (heap_alloc_new _ _)
            case c2p => first | rfl | (intro u hu; rw [List.mem_singleton] at hu; subst hu; rfl)
            case c3p => unfold maxLen; omega
            case c4p => omega
            case c5p => have := hbi.size; simp; omega
            intro v' w1 hown1 hgrow1 _
            have hnx : UrR s.data.toList w (k + 1) v' w1 := by
              refine ⟨?_, HALL.out, ?_⟩
              · rw [HST.out, List.map_append, show (k + 1 + 1) / 2 = (k + 1) / 2 + 1 by omega, show [16 * hexv (s[k]'hlt)].map n8 = [.int .u8 (16 * ((s[k]'hlt).toNat - 48 : Int))] by rw [List.map_singleton]; unfold n8; congr 2; have := HV.out; omega]
                exact hown1
              · have hb2 := hbi.alloc hbi.size (.cells #[.int .u8 (16 * ((s[k]'hlt).toNat - 48 : Int))] 5)
                exact hb2.grown hgrow1 hb2.size fun j hj => (hown.lt j hj).1
            clear hown hown1 hgrow1
            go_wp2
            go_roundw
            case rel => exact ⟨k + 1, by omega, by go_num, hnx⟩
            case measure => simp [intOf]; omega
          · have HV : Hid ((hexv (s[k]'hlt) : Int) = (s[k]'hlt).toNat - 87) := Lib.hid (by unfold hexv; rw [if_pos (by omega)]; omega)
            clear hst hs hall hall2 hd hlt16 ht
            go_wp2_with (at_builtin; (refine wpList_append_own _ rfl _ _ 51 rfl w.heap.size 5 i0 (.int .u8 0) 1 1 Tryd.underlying51 HI.out hz0 hz1 hz2 rfl (by decide) _ _ _ rfl (hown.alloc _) ⟨wi.heap.size, 0, none⟩ 1 1 [.int .u8 (16 * ((s[k]'hlt).toNat - 87 : Int))] rfl rfl ?c1q ?c2q ?c3q ?c4q ?c5q ?_))
            try case c1q => exact World.news_of_block (heap_alloc_new _ _)
            case c2q => first | rfl | (intro u hu; rw [List.mem_singleton] at hu; subst hu; rfl)
            case c3q => unfold maxLen; omega
            case c4q => omega
            case c5q => have := hbi.size; simp; omega
            intro v' w1 hown1 hgrow1 _
            have hnx : UrR s.data.toList w (k + 1) v' w1 := by
              refine ⟨?_, HALL.out, ?_⟩
              · rw [HST.out, List.map_append, show (k + 1 + 1) / 2 = (k + 1) / 2 + 1 by omega, show [16 * hexv (s[k]'hlt)].map n8 = [.int .u8 (16 * ((s[k]'hlt).toNat - 87 : Int))] by rw [List.map_singleton]; unfold n8; congr 2; have := HV.out; omega]
                exact hown1
              · have hb2 := hbi.alloc hbi.size (.cells #[.int .u8 (16 * ((s[k]'hlt).toNat - 87 : Int))] 5)
                exact hb2.grown hgrow1 hb2.size fun j hj => (hown.lt j hj).1
            clear hown hown1 hgrow1
            go_wp2
            go_roundw
            case rel => exact ⟨k + 1, by omega, by go_num, hnx⟩
            case measure => simp [intOf]; omega
        · obtain ⟨hy, hst⟩ := halfR_odd (k / 2) (s.data.toList.take k) (s[k]'hlt) (by omega) hall
          rw [← hs] at hst
          have hpar : ((k : Int) % 2 == 0) = false := by rw [beq_eq_false_iff_ne]; omega
          have hget : ((halfR (s.data.toList.take k)).map n8)[k / 2]? = some (n8 ((halfR (s.data.toList.take k)).getD (k / 2) 0)) := by
            rw [List.getElem?_map, List.getD_eq_getElem?_getD, List.getElem?_eq_getElem (by rw [halfR_len, ht]; omega)]; rfl
          generalize (halfR (s.data.toList.take k)).getD (k / 2) 0 = y at *
          have HST := Lib.hid hst; have HGET := Lib.hid hget; have HY := Lib.hid hy
          rcases hcls with hc | hc
          · have HV : Hid ((hexv (s[k]'hlt) : Int) = (s[k]'hlt).toNat - 48) := Lib.hid (by unfold hexv; rw [if_neg (by omega)]; omega)
            clear hst hs hall hall2 hd hlt16 ht hget hy
            obtain ⟨g, cap, rfl, hgb, hgl⟩ := hown.form (by omega)
            have hcell := hown.cellAt (k / 2) (by omega)
            rw [HGET.out] at hcell
            have hfree := hown.frozenAt (k / 2)
            have hsto := hown.stored (k / 2) (n8 (y + hexv (s[k]'hlt)))
            have HSTO := Lib.hid hsto
            clear hsto
            have hlen1 : ((k : Int) + 1) / 2 - 1 = ((k / 2 : Nat) : Int) := by omega
            have hlen2 : ((((k + 1) / 2 : Nat) : Int)) - 1 = ((k / 2 : Nat) : Int) := by omega
            have hyb : (y : Int) + ((s[k]'hlt).toNat - 48 : Int) ≤ 255 := by have := HV.out; have := HY.out; omega
            go_wp2
            go_roundw
            case rel =>
              have e8 : (y : Int) + ((s[k]'hlt).toNat - 48 : Int) = ((y + hexv (s[k]'hlt) : Nat) : Int) := by have := HV.out; omega
              refine ⟨k + 1, by omega, by go_num, ?_, HALL.out, hbi.setCell hgb _⟩
              rw [e8, HST.out, show (k + 1 + 1) / 2 = (k + 1) / 2 by omega, List.map_set]
              exact HSTO.out.1
            case measure => simp [intOf]; omega
          · have HV : Hid ((hexv (s[k]'hlt) : Int) = (s[k]'hlt).toNat - 87) := Lib.hid (by unfold hexv; rw [if_pos (by omega)]; omega)
            clear hst hs hall hall2 hd hlt16 ht hget hy
            obtain ⟨g, cap, rfl, hgb, hgl⟩ := hown.form (by omega)
            have hcell := hown.cellAt (k / 2) (by omega)
            rw [HGET.out] at hcell
            have hfree := hown.frozenAt (k / 2)
            have hsto := hown.stored (k / 2) (n8 (y + hexv (s[k]'hlt)))
            have HSTO := Lib.hid hsto
            clear hsto
            have hlen1 : ((k : Int) + 1) / 2 - 1 = ((k / 2 : Nat) : Int) := by omega
            have hlen2 : ((((k + 1) / 2 : Nat) : Int)) - 1 = ((k / 2 : Nat) : Int) := by omega
            have hyb : (y : Int) + ((s[k]'hlt).toNat - 87 : Int) ≤ 255 := by have := HV.out; have := HY.out; omega
            go_wp2
            go_roundw
            case rel =>
              have e8 : (y : Int) + ((s[k]'hlt).toNat - 87 : Int) = ((y + hexv (s[k]'hlt) : Nat) : Int) := by have := HV.out; omega
              refine ⟨k + 1, by omega, by go_num, ?_, HALL.out, hbi.setCell hgb _⟩
              rw [e8, HST.out, show (k + 1 + 1) / 2 = (k + 1) / 2 by omega, List.map_set]
              exact HSTO.out.1
            case measure => simp [intOf]; omega
      · have hno : s.data.toList.all isHex = false := by
          rw [Bool.eq_false_iff]
          intro h
          rw [List.all_eq_true] at h
          exact hd (h _ (List.getElem_mem hll))
        have HNO : Hid (hexB s = false) := Lib.hid hno
        have hcls : (s[k]'hlt).toNat < 48 ∨ (57 < (s[k]'hlt).toNat ∧ (s[k]'hlt).toNat < 97) ∨ 102 < (s[k]'hlt).toNat := by
          unfold isHex at hd; simp at hd; omega
        clear hno hall hs ht hd hown
        rcases hcls with hc | hc | hc
        all_goals
          go_wp2
          go_ret2
          exact ⟨hbi, .inl ⟨HNO.out, rfl⟩⟩
    · have he : k = s.size := by omega
      subst he
      have hall2 : s.data.toList.all isHex = true := by rwa [List.take_of_length_le (by simp)] at hall
      rw [List.take_of_length_le (by simp), halfR_pairs n _ hl hall2, List.map_map, show (s.size + 1) / 2 = n by omega] at hown
      have HALL : Hid (hexB s = true) := Lib.hid hall2
      clear hall hall2
      go_wp2
      go_ret2
      exact ⟨hbi, .inr ⟨HALL.out, _, rfl, hown⟩⟩
set_option maxHeartbeats 1000000 in
theorem refUnhex_odd (s : ByteArray) (hn : s.size % 2 = 1) (w : World) :
    Calls Tryd.prog 25 #[.string s] w fun e w' => e = .returned (.tuple #[.slice none 0 0, .bool false]) ∧ w' = w := by
  have hmod : ((s.size : Nat) : Int) % 2 = 1 := by omega
  go_enter Tryd.func25, Tryd.ntmps25
  go_wp2
  go_ret2
  exact ⟨rfl, rfl⟩
end Go.Proofs.YtfjfmcnnakfjnaaDoor


/-
  Contracts over memory: bytes told and read in hexadecimal digits; fields, joined and counted.
-/



namespace Go.Proofs.YtfjfmcnnakfjnaaDoor

open Go.Den Go.RowKit

set_option maxRecDepth 100000

set_option linter.unusedSectionVars false

/-- Nothing is told: nothing comes. -/
theorem refUnhex_zero (s : ByteArray) (hs : s.size = 0) (w : World) :
    Calls Tryd.prog 25 #[.string s] w fun e w' => e = .returned (.tuple #[.slice none 0 0, .bool true]) ∧ w' = w := by
  go_enter Tryd.func25, Tryd.ntmps25
  go_wp2
  go_loopw [4, 5] (fun v i wr => v = .slice none 0 0 ∧ i = .int .i64 ((0 : Nat) : Int) ∧ wr = w) (fun _ i _ => 0)
  case atStart => exact ⟨rfl, rfl, rfl⟩
  case round =>
    obtain ⟨rfl, rfl, rfl⟩ := hrel
    go_wp2
    go_ret2
    exact ⟨rfl, rfl⟩
theorem fields_empty (s : ByteArray) (hs : s.size = 0) (w : World) :
    Calls Tryd.prog 27 #[.string s] w fun e w' => e = .returned (.slice none 0 0) ∧ w' = w := by
  have he : s.toList.isEmpty = true := by
    rw [Lib.toList_data, List.isEmpty_iff]
    exact List.length_eq_zero_iff.1 (by simpa using hs)
  have he2 : s.toList = [] := List.isEmpty_iff.1 he
  go_enter Tryd.func27, Tryd.ntmps27
  go_wp2
  go_ret
  exact ⟨rfl, rfl⟩
theorem fields_any (s : ByteArray) (hs : 0 < s.size) (hb : s.size < 4294967281) (m : Int) (w : World) (hm : w.cell? ⟨0, 0, none⟩ = some (.int .i64 m)) :
    Calls Tryd.prog 27 #[.string s] w fun e w' => e = .returned (.slice (some ⟨w.heap.size, 0, none⟩) (Lib.countB s ⟨#[32]⟩ + 1) (Lib.countB s ⟨#[32]⟩ + 1)) ∧
      w' = w.alloc (.cells ((Lib.splitB ⟨#[32]⟩ 0 (Lib.countB s ⟨#[32]⟩) s).map Value.string).toArray 9) := by
  have hne : s.toList ≠ [] := by
    rw [Lib.toList_data]
    intro h
    have h2 : s.data.toList.length = s.size := Array.length_toList
    rw [h] at h2
    simp only [List.length_nil] at h2
    omega
  have he : s.toList.isEmpty = false := by
    cases h : s.toList with
    | nil => exact absurd h hne
    | cons a b => rfl
  have HM := Lib.hid hm
  clear hm
  go_enter Tryd.func27, Tryd.ntmps27
  go_wp2_with (go_at_call 44; refine (Tryd.strings_Split s ⟨#[32]⟩ m _ hb HM.out (by decide)).mono ?_; rintro e w' ⟨rfl, hw⟩; rw [hw])
  go_ret
  exact ⟨rfl, rfl⟩
end Go.Proofs.YtfjfmcnnakfjnaaDoor


/-
  Contracts over memory as oracles.
-/

namespace Go.Proofs.YtfjfmcnnakfjnaaDoor

open Go.Den Go.RowKit
noncomputable section
set_option maxRecDepth 100000

set_option linter.unusedSectionVars false

noncomputable def unhexV (s : ByteArray) : List UInt8 := (unhexL s.data.toList).getD []
noncomputable def unhexK (s : ByteArray) : Bool := (unhexL s.data.toList).isSome
noncomputable def u8L (l : List UInt8) : List Value := l.map u8
noncomputable def u8s (l : List UInt8) : Array Value := ⟨u8L l⟩
theorem size_data (s : ByteArray) : s.data.toList.length = s.size := Array.length_toList
theorem unhex_cases (s : ByteArray) : (s.size % 2 = 1 ∧ unhexK s = false) ∨ (∃ n, s.size = 2 * n ∧ hexB s = false ∧ unhexK s = false) ∨
    (∃ n, s.size = 2 * n ∧ hexB s = true ∧ unhexK s = true ∧ unhexV s = pairs s.data.toList ∧ (unhexV s).length = n) := by
  have hl := size_data s
  unfold unhexK unhexV unhexL hexB
  rcases Nat.mod_two_eq_zero_or_one s.size with hp | hp
  · refine .inr ?_
    cases hb : s.data.toList.all isHex
    · refine .inl ⟨s.size / 2, by omega, rfl, ?_⟩
      rw [if_neg (by simp)]; rfl
    · refine .inr ⟨s.size / 2, by omega, rfl, ?_⟩
      rw [if_pos ⟨by rw [hl]; exact hp, rfl⟩]
      exact ⟨rfl, rfl, by simp only [Option.getD_some]; rw [pairs_len, hl]⟩
  · refine .inl ⟨hp, ?_⟩
    rw [if_neg (by omega)]; rfl
theorem unhex_any (s : ByteArray) (hs : s.size ≤ 1048576) (w : World) :
    Calls Tryd.prog 24 #[.string s] w fun e w' => Below w.heap.size w w' ∧
      ((unhexK s = false ∧ e = .returned (.tuple #[.slice none 0 0, .bool false])) ∨
       (unhexK s = true ∧ e = .returned (.tuple #[.slice (some ⟨w.heap.size, 0, none⟩) (unhexV s).length (unhexV s).length, .bool true]) ∧ Blk w' w.heap.size (u8s (unhexV s)) 5)) := by
  rcases unhex_cases s with ⟨h1, h2⟩ | ⟨n, h1, h2, h3⟩ | ⟨n, h1, h2, h3, h4, h5⟩
  · refine (unhex_odd s h1 w).mono ?_
    rintro e w' ⟨rfl, rfl⟩
    exact ⟨Below.refl _ _, .inl ⟨h2, rfl⟩⟩
  · refine (unhex_walk s n h1 (by omega) w).mono ?_
    rintro e w' ⟨hb, ⟨_, rfl⟩ | ⟨k, _⟩⟩
    · exact ⟨hb, .inl ⟨h3, rfl⟩⟩
    · rw [h2] at k; cases k
  · refine (unhex_walk s n h1 (by omega) w).mono ?_
    rintro e w' ⟨hb, ⟨k, _⟩ | ⟨_, rfl, hblk⟩⟩
    · rw [h2] at k; cases k
    · refine ⟨hb, .inr ⟨h3, by rw [h5], ?_⟩⟩
      unfold u8s; rw [h4]; exact hblk
theorem refUnhex_any (s : ByteArray) (hs : s.size ≤ 1048576) (w : World) :
    Calls Tryd.prog 25 #[.string s] w fun e w' => Below w.heap.size w w' ∧
      ((unhexK s = false ∧ e = .returned (.tuple #[.slice none 0 0, .bool false])) ∨
       (unhexK s = true ∧ ∃ v, e = .returned (.tuple #[v, .bool true]) ∧ w'.ownsRow w.heap.size 5 1 v (unhexV s).length ((unhexV s).map u8) ∧ ((unhexV s).length = 0 → v = .slice none 0 0))) := by
  rcases unhex_cases s with ⟨h1, h2⟩ | ⟨n, h1, h2, h3⟩ | ⟨n, h1, h2, h3, h4, h5⟩
  · refine (refUnhex_odd s h1 w).mono ?_
    rintro e w' ⟨rfl, rfl⟩
    exact ⟨Below.refl _ _, .inl ⟨h2, rfl⟩⟩
  · refine (refUnhex_walk s n h1 (by omega) w).mono ?_
    rintro e w' ⟨hb, ⟨_, rfl⟩ | ⟨k, _⟩⟩
    · exact ⟨hb, .inl ⟨h3, rfl⟩⟩
    · rw [h2] at k; cases k
  · rcases Nat.eq_zero_or_pos n with hn | hn
    · refine (refUnhex_zero s (by omega) w).mono ?_
      rintro e w' ⟨rfl, rfl⟩
      have he : unhexV s = [] := List.length_eq_zero_iff.1 (by omega)
      refine ⟨Below.refl _ _, .inr ⟨h3, _, rfl, ?_, fun _ => rfl⟩⟩
      rw [he]; exact World.ownsRow_nil _ _ _ _
    · refine (refUnhex_walk s n h1 (by omega) w).mono ?_
      rintro e w' ⟨hb, ⟨k, _⟩ | ⟨_, v, rfl, hown⟩⟩
      · rw [h2] at k; cases k
      · refine ⟨hb, .inr ⟨h3, v, rfl, ?_, fun h0 => by omega⟩⟩
        rw [h5, h4]; exact hown
theorem u8s_ren (ρ : Nat → Nat) (l : List UInt8) : (u8s l).map (ren ρ) = u8s l := by
  unfold u8s u8L; simp [ren]
theorem u8s_bel (n : Nat) (l : List UInt8) : ∀ v ∈ u8s l, bel n v = true := by
  unfold u8s u8L; intro v hv
  simp at hv
  obtain ⟨x, _, rfl⟩ := hv
  rfl
theorem unhexV_le (s : ByteArray) (hs : s.size ≤ 1048576) : (unhexV s).length ≤ 1048576 := by
  rcases unhex_cases s with ⟨h1, h2⟩ | ⟨n, h1, h2, h3⟩ | ⟨n, h1, h2, h3, h4, h5⟩
  · unfold unhexK at h2; unfold unhexV
    rw [Option.isSome_eq_false_iff, Option.isNone_iff_eq_none] at h2; rw [h2]; simp
  · unfold unhexK at h3; unfold unhexV
    rw [Option.isSome_eq_false_iff, Option.isNone_iff_eq_none] at h3; rw [h3]; simp
  · omega
theorem ren_one (ρ : Nat → Nat) (s : ByteArray) : (⟨[.string s]⟩ : Array Value).map (ren ρ) = #[.string s] := by simp [ren]
variable [Inhabited Root] [Inhabited Names]

noncomputable def pmUnhex : PM Tryd.prog where
  f := 24
  orc := fun _ args h nx => match args with
    | ⟨[.string s]⟩ => some (.br (decide (s.size ≤ 1048576)) (.br (unhexK s)
        (.leaf ⟨.tuple ⟨[.slice (some ⟨nx, 0, none⟩) (unhexV s).length (unhexV s).length, .bool true]⟩, h.set nx ⟨u8s (unhexV s), 5, none⟩, nx + 1⟩)
        (.leaf ⟨.tuple ⟨[.slice none 0 0, .bool false]⟩, h, nx⟩)) .fail)
    | _ => none
  body := by kernel_rfl
  ok := fun g args h nx t r ho hr => by
    split at ho
    · rename_i s
      cases ho
      obtain ⟨hs, hr⟩ := Tree.run_guard hr
      rw [decide_eq_true_eq] at hs
      have hle := unhexV_le s hs
      rcases Tree.run_br hr with ⟨hk, hr⟩ | ⟨hk, hr⟩
      · cases hr
        refine satCall_fresh (by omega) (fun hb => ?_) (fun hb => ⟨u8s_bel _ _, fun k hk => by cases hk⟩) fun ρ w R _ => ?_
        · simp only [bel, belL, Bool.and_eq_true, blt_iff, Bool.and_true]
          unfold B0 at hb; omega
        · rw [ren_one]; refine (unhex_any s hs w).mono ?_
          rintro e w' ⟨hb, ⟨k, _⟩ | ⟨_, rfl, hblk⟩⟩
          · rw [hk] at k; cases k
          · have hbase := R.base
            have hlow : upd ρ nx w.heap.size (unhexV s).length = (unhexV s).length := by
              unfold B0 at hbase
              rw [upd_other (by omega)]
              exact R.low _ (by unfold B0; omega)
            refine ⟨upd ρ nx w.heap.size, upd_agree _ _ _, ?_, hb, by rw [upd_same]; exact Nat.le_refl _, ?_⟩
            · simp only [ren, renL, upd_same, hlow]
            · rw [upd_same]
              refine ⟨#[], ?_, rfl⟩
              rw [u8s_ren, Array.append_empty]; exact hblk
      · cases hr
        refine satCall_val rfl fun ρ w R _ => ?_
        rw [ren_one]; refine (unhex_any s hs w).mono ?_
        rintro e w' ⟨hb, ⟨_, rfl⟩ | ⟨k, _⟩⟩
        · exact ⟨rfl, hb⟩
        · rw [hk] at k; cases k
    · cases ho
noncomputable def pmRefUnhex : PM Tryd.prog where
  f := 25
  orc := fun _ args h nx => match args with
    | ⟨[.string s]⟩ => some (.br (decide (s.size ≤ 1048576)) (.br (unhexK s) (.br (decide ((unhexV s).length = 0))
        (.leaf ⟨.tuple ⟨[.slice none 0 0, .bool true]⟩, h, nx⟩)
        (.leaf ⟨.tuple ⟨[.slice (some ⟨nx, 0, none⟩) (unhexV s).length (nx + 1), .bool true]⟩, h.set nx ⟨u8s (unhexV s), 5, some (nx + 1)⟩, nx + 2⟩))
        (.leaf ⟨.tuple ⟨[.slice none 0 0, .bool false]⟩, h, nx⟩)) .fail)
    | _ => none
  body := by kernel_rfl
  ok := fun g args h nx t r ho hr => by
    split at ho
    · rename_i s
      cases ho
      obtain ⟨hs, hr⟩ := Tree.run_guard hr
      rw [decide_eq_true_eq] at hs
      rcases Tree.run_br hr with ⟨hk, hr⟩ | ⟨hk, hr⟩
      · rcases Tree.run_br hr with ⟨h0, hr⟩ | ⟨h0, hr⟩
        · cases hr
          rw [decide_eq_true_eq] at h0
          refine satCall_val rfl fun ρ w R _ => ?_
          rw [ren_one]; refine (refUnhex_any s hs w).mono ?_
          rintro e w' ⟨hb, ⟨k, _⟩ | ⟨_, v, rfl, _, hz⟩⟩
          · rw [hk] at k; cases k
          · rw [hz h0]; exact ⟨rfl, hb⟩
        · cases hr
          rw [decide_eq_false_iff_not] at h0
          refine satCall_fresh (by omega) (fun hb => ?_) (fun hb => ⟨u8s_bel _ _, fun k hk => by cases hk; omega⟩) fun ρ w R _ => ?_
          · simp only [bel, belL, Bool.and_eq_true, blt_iff, Bool.and_true]; omega
          · rw [ren_one]; refine (refUnhex_any s hs w).mono ?_
            rintro e w' ⟨hb, ⟨k, _⟩ | ⟨_, v, rfl, hown, _⟩⟩
            · rw [hk] at k; cases k
            · rcases hown.2 with ⟨_, hz⟩ | ⟨c, cap, cur, rfl, hbc, hheap, hnc, _, hcs, ht⟩
              · exact absurd hz h0
              · refine ⟨upd (upd ρ nx c) (nx + 1) cap, fun b hb' => ?_, ?_, hb, ?_, ?_⟩
                · rw [upd_other (by omega), upd_other (by omega)]
                · simp only [ren, renL, upd_same]
                  rw [upd_other (show nx ≠ nx + 1 by omega), upd_same]
                · rw [upd_other (by omega), upd_same]; exact hbc
                · rw [upd_other (show nx ≠ nx + 1 by omega), upd_same]
                  refine ⟨cur.extract (unhexV s).length cur.size, ?_, ?_⟩
                  · rw [hheap, u8s_ren]
                    congr 2
                    have ht' : cur.toList.take (unhexV s).length = (u8s (unhexV s)).toList := by rw [Nat.mul_one] at ht; exact ht
                    apply Array.toList_inj.1
                    rw [Array.toList_append, ← ht', Array.toList_extract, List.extract_eq_take_drop, List.take_of_length_le (i := cur.size - _) (by simp), List.take_append_drop]
                  · simp only [upd_same]
                    have : (u8s (unhexV s)).size = (unhexV s).length := by unfold u8s u8L; simp
                    rw [this, Array.size_extract]; omega
      · cases hr
        refine satCall_val rfl fun ρ w R _ => ?_
        rw [ren_one]; refine (refUnhex_any s hs w).mono ?_
        rintro e w' ⟨hb, ⟨_, rfl⟩ | ⟨k, _⟩⟩
        · exact ⟨rfl, hb⟩
        · rw [hk] at k; cases k
    · cases ho
end

end Go.Proofs.YtfjfmcnnakfjnaaDoor


/-
  Contracts over memory as oracles: Hex, Fields, Join, Count.
-/

namespace Go.Proofs.YtfjfmcnnakfjnaaDoor

open Go.Den Go.RowKit
noncomputable section
set_option maxRecDepth 100000

set_option linter.unusedSectionVars false

noncomputable def byteOf (v : Value) : UInt8 :=
  match v with
  | .int .u8 n => UInt8.ofNat n.toNat
  | _ => 0
noncomputable def isB8 (v : Value) : Bool :=
  match v with
  | .int .u8 n => decide (0 ≤ n) && decide (n ≤ 255)
  | _ => false
theorem isB8_eq {v : Value} (h : isB8 v = true) : v = u8 (byteOf v) := by
  unfold isB8 at h
  split at h
  · rename_i n
    simp only [Bool.and_eq_true, decide_eq_true_eq] at h
    have : (UInt8.ofNat n.toNat).toNat = n.toNat := by simp; omega
    show Value.int .u8 n = .int .u8 (((UInt8.ofNat n.toNat).toNat : Nat) : Int)
    rw [this]; congr 1; omega
  · cases h
noncomputable def bytesIn (l : List Value) : List UInt8 := l.map byteOf
theorem bytesIn_eq {l : List Value} (h : allV isB8 l = true) : l = (bytesIn l).map u8 := by
  rw [allV_eq, List.all_eq_true] at h
  unfold bytesIn
  rw [List.map_map]
  conv => lhs; rw [← List.map_id l]
  exact List.map_congr_left fun v hv => isB8_eq (h v hv)
noncomputable def hexS (l : List Value) : ByteArray := ⟨(hexL (bytesIn l)).toArray⟩
theorem fext_get {cs : Array Value} {o n j : Nat} {v : Value} (h : (fext cs o (o + n)).toList[j]? = some v) : j < n ∧ cs[o + j]? = some v := by
  rw [fext_eq, Array.getElem?_toList, Array.getElem?_extract] at h
  split at h
  · exact ⟨by omega, h⟩
  · cases h
theorem fext_len {cs : Array Value} {o n : Nat} (h : o + n ≤ cs.size) : (fext cs o (o + n)).toList.length = n := by
  rw [fext_eq, Array.length_toList, Array.size_extract]; omega
variable [Inhabited Root] [Inhabited Names]

/-- A function that tells bytes in digits. -/
structure HexFn where
  f : FuncId
  body : (Tryd.prog.funcs[f]?.bind (·.body)).isSome = true
  any : ∀ (blk off n c : Nat) (bs : List UInt8), bs.length = n → n ≤ 1048576 → ∀ w : World, blk < w.heap.size →
    (∀ (j : Nat) x, bs[j]? = some x → w.cell? ⟨blk, off + j, none⟩ = some (u8 x)) →
    Calls Tryd.prog f #[.slice (some ⟨blk, off, none⟩) n c] w fun e w' => e = .returned (.string ⟨(hexL bs).toArray⟩) ∧ Below w.heap.size w w'
  nil : ∀ (A : Option Addr) (c : Nat) (w : World), Calls Tryd.prog f #[.slice A 0 c] w fun e w' => e = .returned (.string ⟨#[]⟩) ∧ Below w.heap.size w w'
noncomputable def hexOrc (g : AHeap) (args : Array Value) (h : AHeap) (nx : Nat) : Option (Tree VR) :=
  match args with
  | ⟨[.slice (some a) len _]⟩ => match a.spot with
    | none => match Den.look g h a.block with
      | some B => some (.br (Nat.ble (a.off + len) B.cells.size && (decide (len ≤ 1048576) && allV isB8 (fext B.cells a.off (a.off + len)).toList)) (.leaf ⟨.string (hexS (fext B.cells a.off (a.off + len)).toList), h, nx⟩) .fail)
      | none => match argOf a.block with
        | some A => some (.br (Nat.beq a.off A.off && (Nat.beq len A.cells.length && (decide (len ≤ 1048576) && allV isB8 A.cells))) (.leaf ⟨.string (hexS A.cells), h, nx⟩) .fail)
        | none => none
    | some _ => none
  | ⟨[.slice none len _]⟩ => some (.br (Nat.beq len 0) (.leaf ⟨.string ⟨#[]⟩, h, nx⟩) .fail)
  | _ => none
theorem ren_slice1 (ρ : Nat → Nat) (b o n c : Nat) : (⟨[.slice (some ⟨b, o, none⟩) n c]⟩ : Array Value).map (ren ρ) = #[.slice (some ⟨ρ b, o, none⟩) n (ρ c)] := by simp [ren]
theorem ren_slice0 (ρ : Nat → Nat) (n c : Nat) : (⟨[.slice none n c]⟩ : Array Value).map (ren ρ) = #[.slice none n (ρ c)] := by simp [ren]
noncomputable def HexFn.pm (F : HexFn) : PM Tryd.prog where
  f := F.f
  orc := fun g args h nx => hexOrc g args h nx
  body := F.body
  ok := fun g args h nx t r ho hr => by
    unfold hexOrc at ho
    split at ho
    · rename_i a len cp
      obtain ⟨ab, ao, asp⟩ := a
      simp only at ho
      split at ho
      · split at ho
        · rename_i B hk
          cases ho
          obtain ⟨hok, hr⟩ := Tree.run_guard hr
          cases hr
          simp only [Bool.and_eq_true, Nat.ble_eq, decide_eq_true_eq] at hok
          obtain ⟨h1, h2, h3⟩ := hok
          refine satCall_val rfl fun ρ w R _ => ?_
          rw [ren_slice1]
          obtain ⟨hB, _, _⟩ := R.look hk
          have hb := bytesIn_eq h3
          refine F.any (ρ ab) ao len (ρ cp) _ (by unfold bytesIn; rw [List.length_map, fext_len h1]) h2 w hB.lt fun j x hx => ?_
          have hx2 : (fext B.cells ao (ao + len)).toList[j]? = some (u8 x) := by rw [hb, List.getElem?_map, hx]; rfl
          obtain ⟨hj, hc⟩ := fext_get hx2
          rw [hB.cell (by omega), hc]; rfl
        · split at ho
          · rename_i A hA
            cases ho
            obtain ⟨hok, hr⟩ := Tree.run_guard hr
            cases hr
            simp only [Bool.and_eq_true, Nat.beq_eq, decide_eq_true_eq] at hok
            obtain ⟨rfl, rfl, h2, h3⟩ := hok
            refine satCall_val rfl fun ρ w R _ => ?_
            rw [ren_slice1]
            obtain ⟨_, hcells⟩ := R.arg hA
            have hb := bytesIn_eq h3
            have hl : (bytesIn A.cells).length = A.cells.length := by unfold bytesIn; rw [List.length_map]
            rcases Nat.eq_zero_or_pos A.cells.length with h0 | h0
            · have he : A.cells = [] := List.length_eq_zero_iff.1 h0
              rw [h0]
              have hz : hexS A.cells = ⟨#[]⟩ := by rw [he]; rfl
              rw [hz]
              exact F.nil _ _ w
            · have hc0 := hcells 0 A.cells[0] (List.getElem?_eq_getElem h0)
              refine F.any (ρ ab) A.off A.cells.length (ρ cp) _ hl h2 w (World.block_lt_of_cell? _ _ hc0) fun j x hx => ?_
              have hx2 : A.cells[j]? = some (u8 x) := by rw [hb, List.getElem?_map, hx]; rfl
              exact hcells j _ hx2
          · cases ho
      · cases ho
    · rename_i len cp
      cases ho
      obtain ⟨hok, hr⟩ := Tree.run_guard hr
      cases hr
      rw [Nat.beq_eq] at hok
      subst hok
      refine satCall_val rfl fun ρ w R _ => ?_
      rw [ren_slice0]
      exact F.nil _ _ w
    · cases ho
noncomputable def pmHex : PM Tryd.prog := (HexFn.mk 22 (by kernel_rfl) (fun blk off n c bs h1 h2 w hb hc => hex_walk blk off n c bs h1 h2 w hb hc) hex_empty).pm
noncomputable def pmRefHex : PM Tryd.prog := (HexFn.mk 23 (by kernel_rfl) (fun blk off n c bs h1 h2 w hb hc => refHex_walk blk off n c bs h1 h2 w hb hc) refHex_empty).pm

/-- What the runtime's own variable holds. -/
def MaxIs (w : World) : Prop := ∃ m, w.cell? ⟨0, 0, none⟩ = some (.int .i64 m)
theorem MaxIs.held (h : MaxIs rootW) {w : World} (hw : Held w) : MaxIs w := by
  obtain ⟨m, hm⟩ := h
  exact ⟨m, (World.cell?_of_block (hw _ (World.block_lt_of_cell? _ _ hm))).trans hm⟩
noncomputable def fieldsS (s : ByteArray) : List ByteArray := Lib.splitB ⟨#[32]⟩ 0 (Lib.countB s ⟨#[32]⟩) s
noncomputable def strs (l : List ByteArray) : Array Value := ⟨l.map Value.string⟩
theorem fieldsS_len (s : ByteArray) : (fieldsS s).length = Lib.countB s ⟨#[32]⟩ + 1 := Lib.splitB_all _ (by decide) 0 _ s rfl
theorem fieldsS_le (s : ByteArray) : (fieldsS s).length ≤ s.size + 1 := by
  rw [fieldsS_len]
  have := Lib.countB_le ⟨#[32]⟩ (by decide) s.size s (Nat.le_refl _)
  omega
theorem strs_ren (ρ : Nat → Nat) (l : List ByteArray) : (strs l).map (ren ρ) = strs l := by
  unfold strs; simp [ren]
theorem strs_bel (n : Nat) (l : List ByteArray) : ∀ v ∈ strs l, bel n v = true := by
  unfold strs; intro v hv
  simp at hv
  obtain ⟨x, _, rfl⟩ := hv
  rfl
noncomputable def pmFields (hM : MaxIs rootW) : PM Tryd.prog where
  f := 27
  orc := fun _ args h nx => match args with
    | ⟨[.string s]⟩ => some (.br (decide (s.size ≤ 1048576)) (.br (decide (s.size = 0)) (.leaf ⟨.slice none 0 0, h, nx⟩)
        (.leaf ⟨.slice (some ⟨nx, 0, none⟩) (fieldsS s).length (fieldsS s).length, h.set nx ⟨strs (fieldsS s), 9, none⟩, nx + 1⟩)) .fail)
    | _ => none
  body := by kernel_rfl
  ok := fun g args h nx t r ho hr => by
    split at ho
    · rename_i s
      cases ho
      obtain ⟨hs, hr⟩ := Tree.run_guard hr
      rw [decide_eq_true_eq] at hs
      have hle := fieldsS_le s
      rcases Tree.run_br hr with ⟨h0, hr⟩ | ⟨h0, hr⟩
      · cases hr
        rw [decide_eq_true_eq] at h0
        refine satCall_val rfl fun ρ w R _ => ?_
        rw [ren_one]; refine (fields_empty s h0 w).mono ?_
        rintro e w' ⟨rfl, rfl⟩
        exact ⟨rfl, Below.refl _ _⟩
      · cases hr
        rw [decide_eq_false_iff_not] at h0
        refine satCall_fresh (by omega) (fun hb => ?_) (fun hb => ⟨strs_bel _ _, fun k hk => by cases hk⟩) fun ρ w R _ => ?_
        · simp only [bel, Bool.and_eq_true, blt_iff]
          unfold B0 at hb; omega
        · obtain ⟨m, hm⟩ := hM.held R.held
          rw [ren_one]; refine (fields_any s (by omega) (by omega) m w hm).mono ?_
          rintro e w' ⟨rfl, rfl⟩
          have hbase := R.base
          have hlow : upd ρ nx w.heap.size (fieldsS s).length = (fieldsS s).length := by
            unfold B0 at hbase
            rw [upd_other (by omega)]
            exact R.low _ (by unfold B0; omega)
          refine ⟨upd ρ nx w.heap.size, upd_agree _ _ _, ?_, (Below.refl _ w).alloc (Nat.le_refl _) _, by rw [upd_same]; exact Nat.le_refl _, ?_⟩
          · simp only [ren, upd_same, hlow]; rw [fieldsS_len]
          · rw [upd_same]
            refine ⟨#[], ?_, rfl⟩
            rw [strs_ren, Array.append_empty]
            exact heap_alloc_new w _
    · cases ho
noncomputable def strOf (v : Value) : ByteArray :=
  match v with
  | .string s => s
  | _ => ByteArray.empty
noncomputable def isStr (v : Value) : Bool :=
  match v with
  | .string _ => true
  | _ => false
noncomputable def strsIn (l : List Value) : List ByteArray := l.map strOf
theorem strsIn_eq {l : List Value} (h : allV isStr l = true) : l = (strsIn l).map Value.string := by
  rw [allV_eq, List.all_eq_true] at h
  unfold strsIn
  rw [List.map_map]
  conv => lhs; rw [← List.map_id l]
  refine List.map_congr_left fun v hv => ?_
  have := h v hv
  unfold isStr at this
  split at this
  · rfl
  · cases this
noncomputable def joinS (l : List Value) (sep : ByteArray) : ByteArray := ⟨(Lib.join ((strsIn l).map (·.data.toList)) sep.data.toList).toArray⟩
noncomputable def joinOrc (g : AHeap) (args : Array Value) (h : AHeap) (nx : Nat) : Option (Tree VR) :=
  match args with
  | ⟨[.slice (some a) len cp, .string sep]⟩ => match a.spot with
    | none => match Den.look g h a.block with
      | some B => some (.br (Nat.ble (a.off + len) B.cells.size && (decide (len ≤ 1048577) && (Nat.blt cp B0 && (Nat.ble len cp && (allV isStr (fext B.cells a.off (a.off + len)).toList && decide ((joinS (fext B.cells a.off (a.off + len)).toList sep).size ≤ 140737488355328))))))
          (.leaf ⟨.string (joinS (fext B.cells a.off (a.off + len)).toList sep), h, nx⟩) .fail)
      | none => none
    | some _ => none
  | ⟨[.slice none len _, .string _]⟩ => some (.br (Nat.beq len 0) (.leaf ⟨.string ⟨#[]⟩, h, nx⟩) .fail)
  | _ => none
noncomputable def pmJoin : PM Tryd.prog where
  f := 28
  orc := fun g args h nx => joinOrc g args h nx
  body := by kernel_rfl
  ok := fun g args h nx t r ho hr => by
    unfold joinOrc at ho
    split at ho
    · rename_i a len cp sep
      obtain ⟨ab, ao, asp⟩ := a
      simp only at ho
      split at ho
      · split at ho
        · rename_i B hk
          cases ho
          obtain ⟨hok, hr⟩ := Tree.run_guard hr
          cases hr
          simp only [Bool.and_eq_true, Nat.ble_eq, decide_eq_true_eq, blt_iff] at hok
          obtain ⟨h1, h2, h3, h4, h5, h6⟩ := hok
          refine satCall_val rfl fun ρ w R _ => ?_
          have e1 : (⟨[.slice (some ⟨ab, ao, none⟩) len cp, .string sep]⟩ : Array Value).map (ren ρ) = #[.slice (some ⟨ρ ab, ao, none⟩) len cp, .string sep] := by simp [ren, R.low cp h3]
          rw [e1]
          obtain ⟨hB, _, _⟩ := R.look hk
          have hb := strsIn_eq h5
          have hl : (strsIn (fext B.cells ao (ao + len)).toList).length = len := by unfold strsIn; rw [List.length_map, fext_len h1]
          have hc := Tryd.strings_Join (ρ ab) ao cp (strsIn (fext B.cells ao (ao + len)).toList) sep w (fun j x hx => by
            have hx2 : (fext B.cells ao (ao + len)).toList[j]? = some (.string x) := by rw [hb, List.getElem?_map, hx]; rfl
            obtain ⟨hj, hc⟩ := fext_get hx2
            rw [hB.cell (by omega), hc]; rfl) hB.lt (by omega) (by omega) (by
              unfold joinS at h6
              have : ∀ l : List UInt8, (ByteArray.mk l.toArray).size = l.length := fun l => by simp [ByteArray.size]
              rw [this] at h6; exact h6)
          rw [hl] at hc
          exact hc
        · cases ho
      · cases ho
    · rename_i len cp sep
      cases ho
      obtain ⟨hok, hr⟩ := Tree.run_guard hr
      cases hr
      rw [Nat.beq_eq] at hok
      subst hok
      refine satCall_val rfl fun ρ w R _ => ?_
      have e1 : (⟨[.slice none 0 cp, .string sep]⟩ : Array Value).map (ren ρ) = #[.slice none 0 (ρ cp), .string sep] := by simp [ren]
      rw [e1]
      refine (Tryd.strings_Join_none none (ρ cp) sep w).mono ?_
      rintro e w' ⟨rfl, rfl⟩
      exact ⟨rfl, Below.refl _ _⟩
    · cases ho
noncomputable def countS : Array Value → Option (Bool × Value)
  | ⟨[.string s, .string ⟨⟨[c]⟩⟩]⟩ => some (true, .int .i64 (Lib.countByte s.data.toList c))
  | _ => none
noncomputable def pcCount : PC Tryd.prog where
  f := 29
  spec := countS
  body := by kernel_rfl
  ok := fun args r hr hok => by
    unfold countS at hr
    split at hr
    · cases hr
      refine ⟨all_bel rfl, rfl, fun w => (Tryd.strings_Count_one _ _ w).mono ?_⟩
      rintro e w' ⟨rfl, rfl⟩
      exact ⟨rfl, Below.refl _ _⟩
    · cases hr
end

end Go.Proofs.YtfjfmcnnakfjnaaDoor


/-
  The reading of the statements of text: its oracles.
-/


namespace Go.Proofs.YtfjfmcnnakfjnaaDoor

open Go.Den Go.RowKit
noncomputable section
set_option maxRecDepth 100000

set_option linter.unusedSectionVars false

variable [Inhabited Root]

structure Rt : Prop where
  tab : Tab rootW
  max : MaxIs rootW
noncomputable def memsT [Inhabited Names] (hR : Rt) : List (PM Tryd.prog) :=
  (pkDec hR.tab).mem :: (pkUns hR.tab).mem :: (pkDecW hR.tab).mem :: (pkUW hR.tab).mem :: (pkUnd hR.tab).mem :: (pkUnun hR.tab).mem :: pmHex :: pmRefHex :: pmUnhex :: pmRefUnhex :: pmFields hR.max :: pmJoin :: pcCount.up.mem :: pksW
noncomputable def envX [Inhabited Names] (hR : Rt) : Env Tryd.prog := envS.mem false (memsT hR)
end

end Go.Proofs.YtfjfmcnnakfjnaaDoor


/-
  Read by wip/tools/vc.py, and what follows.
-/

namespace Go.Proofs.YtfjfmcnnakfjnaaDoor

open Go.Den Go.RowKit
noncomputable section
set_option maxRecDepth 100000

set_option linter.unusedSectionVars false

variable [Inhabited Root]

theorem known_vc (hR : Rt) (Q : Value → Prop) : ((ev (envX hR) 80).call [] 7 #[] [] B0).holds (fun r => Q r.v) = (Q (Value.bool true)) := by kernel_rfl
noncomputable def knownK : Array Value → Option (Bool × Value)
  | ⟨[]⟩ => some (true, .bool true)
  | _ => none
noncomputable def pkKnown (hR : Rt) : PK Tryd.prog where
  f := 7
  spec := knownK
  body := by kernel_rfl
  ok := fun args r hr hok => by
    unfold knownK at hr
    split at hr
    · cases hr
      refine ⟨all_bel rfl, rfl, fun w hw => ?_⟩
      refine calls_specK (envX hR) hcokP 80 (v := .bool true) ?_ (all_bel rfl) rfl w hw
      rw [known_vc hR (fun v => v = .bool true)]
    · cases hr
/-- Bytes that came in. -/
noncomputable def namesB (blk cap off : Nat) (bs : List UInt8) (h : ∀ (j : Nat) v, (u8L bs)[j]? = some v → rootW.cell? ⟨blk, off + j, none⟩ = some v) : Names :=
  { n := B0 + 2, ρ := fun b => if b = B0 then blk else if b = B0 + 1 then cap else b, args := [⟨B0, off, u8L bs⟩],
     ok := fun A hA => by
      rw [List.mem_singleton] at hA
      subst hA
      refine ⟨by show B0 < B0 + 2; omega, fun j v hv => ?_⟩
      show rootW.cell? ⟨if B0 = B0 then blk else _, off + j, none⟩ = some v
      rw [if_pos rfl]; exact h j v hv }
noncomputable def evB (hR : Rt) (blk cap off : Nat) (bs : List UInt8) (h : ∀ (j : Nat) v, (u8L bs)[j]? = some v → rootW.cell? ⟨blk, off + j, none⟩ = some v) : @Ev :=
  letI : Inhabited Names := ⟨namesB blk cap off bs h⟩
  ev (envS.mem false ((pkKnown hR).mem :: memsT hR)) 80
noncomputable def evN (hR : Rt) : Ev := ev (envS.mem false ((pkKnown hR).mem :: memsT hR)) 80
end

end Go.Proofs.YtfjfmcnnakfjnaaDoor


/-
  Read by wip/tools/vc.py, and what follows.
-/

namespace Go.Proofs.YtfjfmcnnakfjnaaDoor

open Go.Den Go.RowKit
noncomputable section
set_option maxRecDepth 100000

set_option linter.unusedSectionVars false

variable [Inhabited Root]

theorem bytes_zn_path (hR : Rt) (blk cap off : Nat) (bs : List UInt8) (hb : ∀ (j : Nat) v, (u8L bs)[j]? = some v → rootW.cell? ⟨blk, off + j, none⟩ = some v) (s : ByteArray) : ((evB hR blk cap off bs hb).call [] 5 #[.slice (some ⟨B0, off, none⟩) bs.length (B0 + 1), .string s] [] (B0 + 2)).path [true, false, true, true, false, false, true, true, false, true, false, true, true, true, true, true, false, true, false, false, true, true, true, true, true, false, false, true, true, true, true, true, true, true, true, true, true, true, true, true, false, true, true, true, false, true, true, false, true, true, false, true, true, true, false, true, true, false, true, false, true, false, true, false, true, false, true, true, true, true, true, true, true, true, true, true, false, true, false, false, true, true, true, true, true, true, true, true, true, true, true, true, true, true, true, true, true, true, true, true, true, true, true, true, true, true, true, true, true, true, true, true, true, true, false, true, false, true, true, true, true, true, true, true, true, true, true, false, true, false, false, true, true, true, false, false, true, true, true] = some ([true,
  false,
  true,
  true,
  false,
  false,
  true,
  true,
  decide ((↑(List.length bs) : Int) > 1000),
  true,
  false,
  true,
  true,
  true,
  true,
  true,
  decide ((↑(ByteArray.size s) : Int) > 1000),
  true,
  false,
  false,
  true,
  Nat.beq off off &&
  (Nat.beq (List.length bs) (List.length (u8L bs)) && (decide (List.length bs ≤ 1048576) && allV isB8 (u8L bs))),
  true,
  Nat.beq off off &&
  (Nat.beq (List.length bs) (List.length (u8L bs)) && (decide (List.length bs ≤ 1048576) && allV isB8 (u8L bs))),
  true,
  !ByteArray.toList (hexS (u8L bs)) == ByteArray.toList (hexS (u8L bs)),
  false,
  true,
  true,
  Nat.beq off off &&
  (Nat.beq (List.length bs) (List.length (u8L bs)) && (decide (List.length bs ≤ 1048576) && allV isB8 (u8L bs))),
  true,
  true,
  true,
  true,
  true,
  true,
  true,
  true,
  true,
  decide (ByteArray.size s ≤ 1048576),
  unhexK s,
  true,
  true,
  true,
  false,
  true,
  true,
  false,
  true,
  decide (ByteArray.size s ≤ 1048576),
  unhexK s,
  true,
  true,
  true,
  false,
  true,
  true,
  false,
  true,
  false,
  true,
  false,
  true,
  false,
  true,
  false,
  true,
  true,
  true,
  true,
  true,
  true,
  true,
  true,
  true,
  true,
  false,
  true,
  false,
  false,
  true,
  true,
  true,
  true,
  true,
  true,
  true,
  true,
  true,
  decide (ByteArray.size (hexS (u8L bs)) ≤ 1048576),
  unhexK (hexS (u8L bs)),
  true,
  true,
  true,
  true,
  true,
  true,
  true,
  true,
  decide (ByteArray.size (hexS (u8L bs)) ≤ 1048576),
  unhexK (hexS (u8L bs)),
  decide (List.length (unhexV (hexS (u8L bs))) = 0),
  true,
  true,
  true,
  true,
  true,
  true,
  true,
  true,
  true,
  true,
  true,
  true,
  false,
  true,
  false,
  true,
  true,
  true,
  Nat.ble (0 + List.length (unhexV (hexS (u8L bs)))) (Array.size { toList := u8L (unhexV (hexS (u8L bs))) }) &&
  allV isU8
    (Array.toList (fext { toList := u8L (unhexV (hexS (u8L bs))) } 0 (0 + List.length (unhexV (hexS (u8L bs)))))),
  true,
  true,
  true,
  true,
  true,
  true,
  !ByteArray.toList
      (bytesOf
        (Array.toList
          (fext { toList := u8L (unhexV (hexS (u8L bs))) } 0 (0 + List.length (unhexV (hexS (u8L bs))))))) ==
    ByteArray.toList { data := { toList := [] } },
  true,
  false,
  false,
  true,
  true,
  true,
  false,
  false,
  true,
  true,
  true], Value.bool true) := by kernel_rfl
theorem bytes_zz_path (hR : Rt) (blk cap off : Nat) (bs : List UInt8) (hb : ∀ (j : Nat) v, (u8L bs)[j]? = some v → rootW.cell? ⟨blk, off + j, none⟩ = some v) (s : ByteArray) : ((evB hR blk cap off bs hb).call [] 5 #[.slice (some ⟨B0, off, none⟩) bs.length (B0 + 1), .string s] [] (B0 + 2)).path [true, false, true, true, false, false, true, true, false, true, false, true, true, true, true, true, false, true, false, false, true, true, true, true, true, false, false, true, true, true, true, true, true, true, true, true, true, true, true, true, true, true, true, true, true, true, true, true, true, true, true, true, true, true, true, true, true, true, true, true, true, true, true, true, false, true, false, true, true, true, true, true, true, true, true, true, true, false, true, false, false, true, true, true, true, true, true, true, true, true, true, true, true, true, true, true, true, true, true, true, true, true, true, true, true, true, true, true, true, true, true, true, true, true, true, false, true, false, true, true, true, true, true, true, true, true, true, true, false, true, false, false, true, true, true, false, false, true, true, true] = some ([true,
  false,
  true,
  true,
  false,
  false,
  true,
  true,
  decide ((↑(List.length bs) : Int) > 1000),
  true,
  false,
  true,
  true,
  true,
  true,
  true,
  decide ((↑(ByteArray.size s) : Int) > 1000),
  true,
  false,
  false,
  true,
  Nat.beq off off &&
  (Nat.beq (List.length bs) (List.length (u8L bs)) && (decide (List.length bs ≤ 1048576) && allV isB8 (u8L bs))),
  true,
  Nat.beq off off &&
  (Nat.beq (List.length bs) (List.length (u8L bs)) && (decide (List.length bs ≤ 1048576) && allV isB8 (u8L bs))),
  true,
  !ByteArray.toList (hexS (u8L bs)) == ByteArray.toList (hexS (u8L bs)),
  false,
  true,
  true,
  Nat.beq off off &&
  (Nat.beq (List.length bs) (List.length (u8L bs)) && (decide (List.length bs ≤ 1048576) && allV isB8 (u8L bs))),
  true,
  true,
  true,
  true,
  true,
  true,
  true,
  true,
  true,
  decide (ByteArray.size s ≤ 1048576),
  unhexK s,
  true,
  true,
  true,
  true,
  true,
  true,
  true,
  true,
  decide (ByteArray.size s ≤ 1048576),
  unhexK s,
  decide (List.length (unhexV s) = 0),
  true,
  true,
  true,
  true,
  true,
  true,
  true,
  true,
  true,
  true,
  true,
  true,
  false,
  true,
  false,
  true,
  true,
  true,
  Nat.ble (0 + List.length (unhexV s)) (Array.size { toList := u8L (unhexV s) }) &&
  allV isU8 (Array.toList (fext { toList := u8L (unhexV s) } 0 (0 + List.length (unhexV s)))),
  true,
  true,
  true,
  true,
  true,
  true,
  !ByteArray.toList (bytesOf (Array.toList (fext { toList := u8L (unhexV s) } 0 (0 + List.length (unhexV s))))) ==
    ByteArray.toList { data := { toList := [] } },
  true,
  false,
  false,
  true,
  true,
  true,
  true,
  true,
  true,
  true,
  true,
  true,
  decide (ByteArray.size (hexS (u8L bs)) ≤ 1048576),
  unhexK (hexS (u8L bs)),
  true,
  true,
  true,
  true,
  true,
  true,
  true,
  true,
  decide (ByteArray.size (hexS (u8L bs)) ≤ 1048576),
  unhexK (hexS (u8L bs)),
  decide (List.length (unhexV (hexS (u8L bs))) = 0),
  true,
  true,
  true,
  true,
  true,
  true,
  true,
  true,
  true,
  true,
  true,
  true,
  false,
  true,
  false,
  true,
  true,
  true,
  Nat.ble (0 + List.length (unhexV (hexS (u8L bs)))) (Array.size { toList := u8L (unhexV (hexS (u8L bs))) }) &&
  allV isU8
    (Array.toList (fext { toList := u8L (unhexV (hexS (u8L bs))) } 0 (0 + List.length (unhexV (hexS (u8L bs)))))),
  true,
  true,
  true,
  true,
  true,
  true,
  !ByteArray.toList
      (bytesOf
        (Array.toList
          (fext { toList := u8L (unhexV (hexS (u8L bs))) } 0 (0 + List.length (unhexV (hexS (u8L bs))))))) ==
    ByteArray.toList { data := { toList := [] } },
  true,
  false,
  false,
  true,
  true,
  true,
  false,
  false,
  true,
  true,
  true], Value.bool true) := by kernel_rfl
theorem bytes_zp_path (hR : Rt) (blk cap off : Nat) (bs : List UInt8) (hb : ∀ (j : Nat) v, (u8L bs)[j]? = some v → rootW.cell? ⟨blk, off + j, none⟩ = some v) (s : ByteArray) : ((evB hR blk cap off bs hb).call [] 5 #[.slice (some ⟨B0, off, none⟩) bs.length (B0 + 1), .string s] [] (B0 + 2)).path [true, false, true, true, false, false, true, true, false, true, false, true, true, true, true, true, false, true, false, false, true, true, true, true, true, false, false, true, true, true, true, true, true, true, true, true, true, true, true, true, true, true, true, true, true, true, true, true, true, true, true, false, true, true, true, true, true, true, true, true, true, true, true, true, false, true, false, true, true, true, true, true, true, true, true, true, true, false, true, false, false, true, true, true, true, true, true, true, true, true, true, true, true, true, true, true, true, true, true, true, true, true, true, true, true, true, true, true, true, true, true, true, true, true, true, false, true, false, true, true, true, true, true, true, true, true, true, true, false, true, false, false, true, true, true, false, false, true, true, true] = some ([true,
  false,
  true,
  true,
  false,
  false,
  true,
  true,
  decide ((↑(List.length bs) : Int) > 1000),
  true,
  false,
  true,
  true,
  true,
  true,
  true,
  decide ((↑(ByteArray.size s) : Int) > 1000),
  true,
  false,
  false,
  true,
  Nat.beq off off &&
  (Nat.beq (List.length bs) (List.length (u8L bs)) && (decide (List.length bs ≤ 1048576) && allV isB8 (u8L bs))),
  true,
  Nat.beq off off &&
  (Nat.beq (List.length bs) (List.length (u8L bs)) && (decide (List.length bs ≤ 1048576) && allV isB8 (u8L bs))),
  true,
  !ByteArray.toList (hexS (u8L bs)) == ByteArray.toList (hexS (u8L bs)),
  false,
  true,
  true,
  Nat.beq off off &&
  (Nat.beq (List.length bs) (List.length (u8L bs)) && (decide (List.length bs ≤ 1048576) && allV isB8 (u8L bs))),
  true,
  true,
  true,
  true,
  true,
  true,
  true,
  true,
  true,
  decide (ByteArray.size s ≤ 1048576),
  unhexK s,
  true,
  true,
  true,
  true,
  true,
  true,
  true,
  true,
  decide (ByteArray.size s ≤ 1048576),
  unhexK s,
  decide (List.length (unhexV s) = 0),
  true,
  true,
  true,
  true,
  true,
  true,
  true,
  true,
  true,
  true,
  true,
  true,
  false,
  true,
  false,
  true,
  true,
  true,
  Nat.ble (0 + List.length (unhexV s)) (Array.size { toList := u8L (unhexV s) }) &&
  allV isU8 (Array.toList (fext { toList := u8L (unhexV s) } 0 (0 + List.length (unhexV s)))),
  true,
  true,
  true,
  Nat.ble (0 + List.length (unhexV s)) (Array.size { toList := u8L (unhexV s) }) &&
  allV isU8 (Array.toList (fext { toList := u8L (unhexV s) } 0 (0 + List.length (unhexV s)))),
  true,
  true,
  !ByteArray.toList (bytesOf (Array.toList (fext { toList := u8L (unhexV s) } 0 (0 + List.length (unhexV s))))) ==
    ByteArray.toList (bytesOf (Array.toList (fext { toList := u8L (unhexV s) } 0 (0 + List.length (unhexV s))))),
  true,
  false,
  false,
  true,
  true,
  true,
  true,
  true,
  true,
  true,
  true,
  true,
  decide (ByteArray.size (hexS (u8L bs)) ≤ 1048576),
  unhexK (hexS (u8L bs)),
  true,
  true,
  true,
  true,
  true,
  true,
  true,
  true,
  decide (ByteArray.size (hexS (u8L bs)) ≤ 1048576),
  unhexK (hexS (u8L bs)),
  decide (List.length (unhexV (hexS (u8L bs))) = 0),
  true,
  true,
  true,
  true,
  true,
  true,
  true,
  true,
  true,
  true,
  true,
  true,
  false,
  true,
  false,
  true,
  true,
  true,
  Nat.ble (0 + List.length (unhexV (hexS (u8L bs)))) (Array.size { toList := u8L (unhexV (hexS (u8L bs))) }) &&
  allV isU8
    (Array.toList (fext { toList := u8L (unhexV (hexS (u8L bs))) } 0 (0 + List.length (unhexV (hexS (u8L bs)))))),
  true,
  true,
  true,
  true,
  true,
  true,
  !ByteArray.toList
      (bytesOf
        (Array.toList
          (fext { toList := u8L (unhexV (hexS (u8L bs))) } 0 (0 + List.length (unhexV (hexS (u8L bs))))))) ==
    ByteArray.toList { data := { toList := [] } },
  true,
  false,
  false,
  true,
  true,
  true,
  false,
  false,
  true,
  true,
  true], Value.bool true) := by kernel_rfl
theorem bytes_pn_path (hR : Rt) (blk cap off : Nat) (bs : List UInt8) (hb : ∀ (j : Nat) v, (u8L bs)[j]? = some v → rootW.cell? ⟨blk, off + j, none⟩ = some v) (s : ByteArray) : ((evB hR blk cap off bs hb).call [] 5 #[.slice (some ⟨B0, off, none⟩) bs.length (B0 + 1), .string s] [] (B0 + 2)).path [true, false, true, true, false, false, true, true, false, true, false, true, true, true, true, true, false, true, false, false, true, true, true, true, true, false, false, true, true, true, true, true, true, true, true, true, true, true, true, true, false, true, true, true, false, true, true, false, true, true, false, true, true, true, false, true, true, false, true, false, true, false, true, false, true, false, true, true, true, true, true, true, true, true, true, true, false, true, false, false, true, true, true, true, true, true, true, true, true, true, true, true, true, true, true, true, true, true, true, true, true, false, true, true, true, true, true, true, true, true, true, true, true, true, false, true, false, true, true, true, true, true, true, true, true, true, true, false, true, false, false, true, true, true, false, false, true, true, true] = some ([true,
  false,
  true,
  true,
  false,
  false,
  true,
  true,
  decide ((↑(List.length bs) : Int) > 1000),
  true,
  false,
  true,
  true,
  true,
  true,
  true,
  decide ((↑(ByteArray.size s) : Int) > 1000),
  true,
  false,
  false,
  true,
  Nat.beq off off &&
  (Nat.beq (List.length bs) (List.length (u8L bs)) && (decide (List.length bs ≤ 1048576) && allV isB8 (u8L bs))),
  true,
  Nat.beq off off &&
  (Nat.beq (List.length bs) (List.length (u8L bs)) && (decide (List.length bs ≤ 1048576) && allV isB8 (u8L bs))),
  true,
  !ByteArray.toList (hexS (u8L bs)) == ByteArray.toList (hexS (u8L bs)),
  false,
  true,
  true,
  Nat.beq off off &&
  (Nat.beq (List.length bs) (List.length (u8L bs)) && (decide (List.length bs ≤ 1048576) && allV isB8 (u8L bs))),
  true,
  true,
  true,
  true,
  true,
  true,
  true,
  true,
  true,
  decide (ByteArray.size s ≤ 1048576),
  unhexK s,
  true,
  true,
  true,
  false,
  true,
  true,
  false,
  true,
  decide (ByteArray.size s ≤ 1048576),
  unhexK s,
  true,
  true,
  true,
  false,
  true,
  true,
  false,
  true,
  false,
  true,
  false,
  true,
  false,
  true,
  false,
  true,
  true,
  true,
  true,
  true,
  true,
  true,
  true,
  true,
  true,
  false,
  true,
  false,
  false,
  true,
  true,
  true,
  true,
  true,
  true,
  true,
  true,
  true,
  decide (ByteArray.size (hexS (u8L bs)) ≤ 1048576),
  unhexK (hexS (u8L bs)),
  true,
  true,
  true,
  true,
  true,
  true,
  true,
  true,
  decide (ByteArray.size (hexS (u8L bs)) ≤ 1048576),
  unhexK (hexS (u8L bs)),
  decide (List.length (unhexV (hexS (u8L bs))) = 0),
  true,
  true,
  true,
  true,
  true,
  true,
  true,
  true,
  true,
  true,
  true,
  true,
  false,
  true,
  false,
  true,
  true,
  true,
  Nat.ble (0 + List.length (unhexV (hexS (u8L bs)))) (Array.size { toList := u8L (unhexV (hexS (u8L bs))) }) &&
  allV isU8
    (Array.toList (fext { toList := u8L (unhexV (hexS (u8L bs))) } 0 (0 + List.length (unhexV (hexS (u8L bs)))))),
  true,
  true,
  true,
  Nat.ble (0 + List.length (unhexV (hexS (u8L bs)))) (Array.size { toList := u8L (unhexV (hexS (u8L bs))) }) &&
  allV isU8
    (Array.toList (fext { toList := u8L (unhexV (hexS (u8L bs))) } 0 (0 + List.length (unhexV (hexS (u8L bs)))))),
  true,
  true,
  !ByteArray.toList
      (bytesOf
        (Array.toList
          (fext { toList := u8L (unhexV (hexS (u8L bs))) } 0 (0 + List.length (unhexV (hexS (u8L bs))))))) ==
    ByteArray.toList
      (bytesOf
        (Array.toList (fext { toList := u8L (unhexV (hexS (u8L bs))) } 0 (0 + List.length (unhexV (hexS (u8L bs))))))),
  true,
  false,
  false,
  true,
  true,
  true,
  false,
  false,
  true,
  true,
  true], Value.bool true) := by kernel_rfl
theorem bytes_pz_path (hR : Rt) (blk cap off : Nat) (bs : List UInt8) (hb : ∀ (j : Nat) v, (u8L bs)[j]? = some v → rootW.cell? ⟨blk, off + j, none⟩ = some v) (s : ByteArray) : ((evB hR blk cap off bs hb).call [] 5 #[.slice (some ⟨B0, off, none⟩) bs.length (B0 + 1), .string s] [] (B0 + 2)).path [true, false, true, true, false, false, true, true, false, true, false, true, true, true, true, true, false, true, false, false, true, true, true, true, true, false, false, true, true, true, true, true, true, true, true, true, true, true, true, true, true, true, true, true, true, true, true, true, true, true, true, true, true, true, true, true, true, true, true, true, true, true, true, true, false, true, false, true, true, true, true, true, true, true, true, true, true, false, true, false, false, true, true, true, true, true, true, true, true, true, true, true, true, true, true, true, true, true, true, true, true, true, false, true, true, true, true, true, true, true, true, true, true, true, true, false, true, false, true, true, true, true, true, true, true, true, true, true, false, true, false, false, true, true, true, false, false, true, true, true] = some ([true,
  false,
  true,
  true,
  false,
  false,
  true,
  true,
  decide ((↑(List.length bs) : Int) > 1000),
  true,
  false,
  true,
  true,
  true,
  true,
  true,
  decide ((↑(ByteArray.size s) : Int) > 1000),
  true,
  false,
  false,
  true,
  Nat.beq off off &&
  (Nat.beq (List.length bs) (List.length (u8L bs)) && (decide (List.length bs ≤ 1048576) && allV isB8 (u8L bs))),
  true,
  Nat.beq off off &&
  (Nat.beq (List.length bs) (List.length (u8L bs)) && (decide (List.length bs ≤ 1048576) && allV isB8 (u8L bs))),
  true,
  !ByteArray.toList (hexS (u8L bs)) == ByteArray.toList (hexS (u8L bs)),
  false,
  true,
  true,
  Nat.beq off off &&
  (Nat.beq (List.length bs) (List.length (u8L bs)) && (decide (List.length bs ≤ 1048576) && allV isB8 (u8L bs))),
  true,
  true,
  true,
  true,
  true,
  true,
  true,
  true,
  true,
  decide (ByteArray.size s ≤ 1048576),
  unhexK s,
  true,
  true,
  true,
  true,
  true,
  true,
  true,
  true,
  decide (ByteArray.size s ≤ 1048576),
  unhexK s,
  decide (List.length (unhexV s) = 0),
  true,
  true,
  true,
  true,
  true,
  true,
  true,
  true,
  true,
  true,
  true,
  true,
  false,
  true,
  false,
  true,
  true,
  true,
  Nat.ble (0 + List.length (unhexV s)) (Array.size { toList := u8L (unhexV s) }) &&
  allV isU8 (Array.toList (fext { toList := u8L (unhexV s) } 0 (0 + List.length (unhexV s)))),
  true,
  true,
  true,
  true,
  true,
  true,
  !ByteArray.toList (bytesOf (Array.toList (fext { toList := u8L (unhexV s) } 0 (0 + List.length (unhexV s))))) ==
    ByteArray.toList { data := { toList := [] } },
  true,
  false,
  false,
  true,
  true,
  true,
  true,
  true,
  true,
  true,
  true,
  true,
  decide (ByteArray.size (hexS (u8L bs)) ≤ 1048576),
  unhexK (hexS (u8L bs)),
  true,
  true,
  true,
  true,
  true,
  true,
  true,
  true,
  decide (ByteArray.size (hexS (u8L bs)) ≤ 1048576),
  unhexK (hexS (u8L bs)),
  decide (List.length (unhexV (hexS (u8L bs))) = 0),
  true,
  true,
  true,
  true,
  true,
  true,
  true,
  true,
  true,
  true,
  true,
  true,
  false,
  true,
  false,
  true,
  true,
  true,
  Nat.ble (0 + List.length (unhexV (hexS (u8L bs)))) (Array.size { toList := u8L (unhexV (hexS (u8L bs))) }) &&
  allV isU8
    (Array.toList (fext { toList := u8L (unhexV (hexS (u8L bs))) } 0 (0 + List.length (unhexV (hexS (u8L bs)))))),
  true,
  true,
  true,
  Nat.ble (0 + List.length (unhexV (hexS (u8L bs)))) (Array.size { toList := u8L (unhexV (hexS (u8L bs))) }) &&
  allV isU8
    (Array.toList (fext { toList := u8L (unhexV (hexS (u8L bs))) } 0 (0 + List.length (unhexV (hexS (u8L bs)))))),
  true,
  true,
  !ByteArray.toList
      (bytesOf
        (Array.toList
          (fext { toList := u8L (unhexV (hexS (u8L bs))) } 0 (0 + List.length (unhexV (hexS (u8L bs))))))) ==
    ByteArray.toList
      (bytesOf
        (Array.toList (fext { toList := u8L (unhexV (hexS (u8L bs))) } 0 (0 + List.length (unhexV (hexS (u8L bs))))))),
  true,
  false,
  false,
  true,
  true,
  true,
  false,
  false,
  true,
  true,
  true], Value.bool true) := by kernel_rfl
theorem bytes_pp_path (hR : Rt) (blk cap off : Nat) (bs : List UInt8) (hb : ∀ (j : Nat) v, (u8L bs)[j]? = some v → rootW.cell? ⟨blk, off + j, none⟩ = some v) (s : ByteArray) : ((evB hR blk cap off bs hb).call [] 5 #[.slice (some ⟨B0, off, none⟩) bs.length (B0 + 1), .string s] [] (B0 + 2)).path [true, false, true, true, false, false, true, true, false, true, false, true, true, true, true, true, false, true, false, false, true, true, true, true, true, false, false, true, true, true, true, true, true, true, true, true, true, true, true, true, true, true, true, true, true, true, true, true, true, true, true, false, true, true, true, true, true, true, true, true, true, true, true, true, false, true, false, true, true, true, true, true, true, true, true, true, true, false, true, false, false, true, true, true, true, true, true, true, true, true, true, true, true, true, true, true, true, true, true, true, true, true, false, true, true, true, true, true, true, true, true, true, true, true, true, false, true, false, true, true, true, true, true, true, true, true, true, true, false, true, false, false, true, true, true, false, false, true, true, true] = some ([true,
  false,
  true,
  true,
  false,
  false,
  true,
  true,
  decide ((↑(List.length bs) : Int) > 1000),
  true,
  false,
  true,
  true,
  true,
  true,
  true,
  decide ((↑(ByteArray.size s) : Int) > 1000),
  true,
  false,
  false,
  true,
  Nat.beq off off &&
  (Nat.beq (List.length bs) (List.length (u8L bs)) && (decide (List.length bs ≤ 1048576) && allV isB8 (u8L bs))),
  true,
  Nat.beq off off &&
  (Nat.beq (List.length bs) (List.length (u8L bs)) && (decide (List.length bs ≤ 1048576) && allV isB8 (u8L bs))),
  true,
  !ByteArray.toList (hexS (u8L bs)) == ByteArray.toList (hexS (u8L bs)),
  false,
  true,
  true,
  Nat.beq off off &&
  (Nat.beq (List.length bs) (List.length (u8L bs)) && (decide (List.length bs ≤ 1048576) && allV isB8 (u8L bs))),
  true,
  true,
  true,
  true,
  true,
  true,
  true,
  true,
  true,
  decide (ByteArray.size s ≤ 1048576),
  unhexK s,
  true,
  true,
  true,
  true,
  true,
  true,
  true,
  true,
  decide (ByteArray.size s ≤ 1048576),
  unhexK s,
  decide (List.length (unhexV s) = 0),
  true,
  true,
  true,
  true,
  true,
  true,
  true,
  true,
  true,
  true,
  true,
  true,
  false,
  true,
  false,
  true,
  true,
  true,
  Nat.ble (0 + List.length (unhexV s)) (Array.size { toList := u8L (unhexV s) }) &&
  allV isU8 (Array.toList (fext { toList := u8L (unhexV s) } 0 (0 + List.length (unhexV s)))),
  true,
  true,
  true,
  Nat.ble (0 + List.length (unhexV s)) (Array.size { toList := u8L (unhexV s) }) &&
  allV isU8 (Array.toList (fext { toList := u8L (unhexV s) } 0 (0 + List.length (unhexV s)))),
  true,
  true,
  !ByteArray.toList (bytesOf (Array.toList (fext { toList := u8L (unhexV s) } 0 (0 + List.length (unhexV s))))) ==
    ByteArray.toList (bytesOf (Array.toList (fext { toList := u8L (unhexV s) } 0 (0 + List.length (unhexV s))))),
  true,
  false,
  false,
  true,
  true,
  true,
  true,
  true,
  true,
  true,
  true,
  true,
  decide (ByteArray.size (hexS (u8L bs)) ≤ 1048576),
  unhexK (hexS (u8L bs)),
  true,
  true,
  true,
  true,
  true,
  true,
  true,
  true,
  decide (ByteArray.size (hexS (u8L bs)) ≤ 1048576),
  unhexK (hexS (u8L bs)),
  decide (List.length (unhexV (hexS (u8L bs))) = 0),
  true,
  true,
  true,
  true,
  true,
  true,
  true,
  true,
  true,
  true,
  true,
  true,
  false,
  true,
  false,
  true,
  true,
  true,
  Nat.ble (0 + List.length (unhexV (hexS (u8L bs)))) (Array.size { toList := u8L (unhexV (hexS (u8L bs))) }) &&
  allV isU8
    (Array.toList (fext { toList := u8L (unhexV (hexS (u8L bs))) } 0 (0 + List.length (unhexV (hexS (u8L bs)))))),
  true,
  true,
  true,
  Nat.ble (0 + List.length (unhexV (hexS (u8L bs)))) (Array.size { toList := u8L (unhexV (hexS (u8L bs))) }) &&
  allV isU8
    (Array.toList (fext { toList := u8L (unhexV (hexS (u8L bs))) } 0 (0 + List.length (unhexV (hexS (u8L bs)))))),
  true,
  true,
  !ByteArray.toList
      (bytesOf
        (Array.toList
          (fext { toList := u8L (unhexV (hexS (u8L bs))) } 0 (0 + List.length (unhexV (hexS (u8L bs))))))) ==
    ByteArray.toList
      (bytesOf
        (Array.toList (fext { toList := u8L (unhexV (hexS (u8L bs))) } 0 (0 + List.length (unhexV (hexS (u8L bs))))))),
  true,
  false,
  false,
  true,
  true,
  true,
  false,
  false,
  true,
  true,
  true], Value.bool true) := by kernel_rfl
theorem bytes_lb_path (hR : Rt) (blk cap off : Nat) (bs : List UInt8) (hb : ∀ (j : Nat) v, (u8L bs)[j]? = some v → rootW.cell? ⟨blk, off + j, none⟩ = some v) (s : ByteArray) : ((evB hR blk cap off bs hb).call [] 5 #[.slice (some ⟨B0, off, none⟩) bs.length (B0 + 1), .string s] [] (B0 + 2)).path [true, false, true, true, false, false, true, true, true, true, true, false, false, false, true, true, true, true, true, true] = some ([true,
  false,
  true,
  true,
  false,
  false,
  true,
  true,
  decide ((↑(List.length bs) : Int) > 1000),
  true,
  true,
  false,
  false,
  false,
  true,
  true,
  true,
  true,
  true,
  true], Value.bool true) := by kernel_rfl
theorem bytes_ls_path (hR : Rt) (blk cap off : Nat) (bs : List UInt8) (hb : ∀ (j : Nat) v, (u8L bs)[j]? = some v → rootW.cell? ⟨blk, off + j, none⟩ = some v) (s : ByteArray) : ((evB hR blk cap off bs hb).call [] 5 #[.slice (some ⟨B0, off, none⟩) bs.length (B0 + 1), .string s] [] (B0 + 2)).path [true, false, true, true, false, false, true, true, false, true, false, true, true, true, true, true, true, true, true, true, true, true, true] = some ([true,
  false,
  true,
  true,
  false,
  false,
  true,
  true,
  decide ((↑(List.length bs) : Int) > 1000),
  true,
  false,
  true,
  true,
  true,
  true,
  true,
  decide ((↑(ByteArray.size s) : Int) > 1000),
  true,
  true,
  true,
  true,
  true,
  true], Value.bool true) := by kernel_rfl
theorem bytes_nn_path (hR : Rt) (s : ByteArray) : ((evN hR).call [] 5 #[.slice none 0 0, .string s] [] B0).path [true, false, true, true, false, false, true, true, false, true, false, true, true, true, true, true, false, true, false, false, true, true, true, true, true, false, false, true, true, true, true, true, true, true, true, true, true, true, true, true, false, true, true, true, false, true, true, false, true, true, false, true, true, true, false, true, true, false, true, false, true, false, true, false, true, false, true, true, true, true, true, true, true, true, true, true, false, true, false, false, true, true, true, true, true, true, true, true, true, true, true, true, true, true, true, true, true, true, true, true, true, true, true, true, true, true, true, true, true, true, true, true, true, true, false, true, false, true, true, true, true, true, true, true, true, true, true, false, true, false, false, true, true, true, false, false, true, true, true] = some ([true,
  false,
  true,
  true,
  false,
  false,
  true,
  true,
  false,
  true,
  false,
  true,
  true,
  true,
  true,
  true,
  decide ((↑(ByteArray.size s) : Int) > 1000),
  true,
  false,
  false,
  true,
  true,
  true,
  true,
  true,
  false,
  false,
  true,
  true,
  true,
  true,
  true,
  true,
  true,
  true,
  true,
  true,
  true,
  true,
  decide (ByteArray.size s ≤ 1048576),
  unhexK s,
  true,
  true,
  true,
  false,
  true,
  true,
  false,
  true,
  decide (ByteArray.size s ≤ 1048576),
  unhexK s,
  true,
  true,
  true,
  false,
  true,
  true,
  false,
  true,
  false,
  true,
  false,
  true,
  false,
  true,
  false,
  true,
  true,
  true,
  true,
  true,
  true,
  true,
  true,
  true,
  true,
  false,
  true,
  false,
  false,
  true,
  true,
  true,
  true,
  true,
  true,
  true,
  true,
  true,
  true,
  true,
  true,
  true,
  true,
  true,
  true,
  true,
  true,
  true,
  true,
  true,
  true,
  true,
  true,
  true,
  true,
  true,
  true,
  true,
  true,
  true,
  true,
  true,
  true,
  false,
  true,
  false,
  true,
  true,
  true,
  true,
  true,
  true,
  true,
  true,
  true,
  true,
  false,
  true,
  false,
  false,
  true,
  true,
  true,
  false,
  false,
  true,
  true,
  true], Value.bool true) := by kernel_rfl
theorem bytes_nz_path (hR : Rt) (s : ByteArray) : ((evN hR).call [] 5 #[.slice none 0 0, .string s] [] B0).path [true, false, true, true, false, false, true, true, false, true, false, true, true, true, true, true, false, true, false, false, true, true, true, true, true, false, false, true, true, true, true, true, true, true, true, true, true, true, true, true, true, true, true, true, true, true, true, true, true, true, true, true, true, true, true, true, true, true, true, true, true, true, true, true, false, true, false, true, true, true, true, true, true, true, true, true, true, false, true, false, false, true, true, true, true, true, true, true, true, true, true, true, true, true, true, true, true, true, true, true, true, true, true, true, true, true, true, true, true, true, true, true, true, true, true, false, true, false, true, true, true, true, true, true, true, true, true, true, false, true, false, false, true, true, true, false, false, true, true, true] = some ([true,
  false,
  true,
  true,
  false,
  false,
  true,
  true,
  false,
  true,
  false,
  true,
  true,
  true,
  true,
  true,
  decide ((↑(ByteArray.size s) : Int) > 1000),
  true,
  false,
  false,
  true,
  true,
  true,
  true,
  true,
  false,
  false,
  true,
  true,
  true,
  true,
  true,
  true,
  true,
  true,
  true,
  true,
  true,
  true,
  decide (ByteArray.size s ≤ 1048576),
  unhexK s,
  true,
  true,
  true,
  true,
  true,
  true,
  true,
  true,
  decide (ByteArray.size s ≤ 1048576),
  unhexK s,
  decide (List.length (unhexV s) = 0),
  true,
  true,
  true,
  true,
  true,
  true,
  true,
  true,
  true,
  true,
  true,
  true,
  false,
  true,
  false,
  true,
  true,
  true,
  Nat.ble (0 + List.length (unhexV s)) (Array.size { toList := u8L (unhexV s) }) &&
  allV isU8 (Array.toList (fext { toList := u8L (unhexV s) } 0 (0 + List.length (unhexV s)))),
  true,
  true,
  true,
  true,
  true,
  true,
  !ByteArray.toList (bytesOf (Array.toList (fext { toList := u8L (unhexV s) } 0 (0 + List.length (unhexV s))))) ==
    ByteArray.toList { data := { toList := [] } },
  true,
  false,
  false,
  true,
  true,
  true,
  true,
  true,
  true,
  true,
  true,
  true,
  true,
  true,
  true,
  true,
  true,
  true,
  true,
  true,
  true,
  true,
  true,
  true,
  true,
  true,
  true,
  true,
  true,
  true,
  true,
  true,
  true,
  true,
  true,
  true,
  true,
  false,
  true,
  false,
  true,
  true,
  true,
  true,
  true,
  true,
  true,
  true,
  true,
  true,
  false,
  true,
  false,
  false,
  true,
  true,
  true,
  false,
  false,
  true,
  true,
  true], Value.bool true) := by kernel_rfl
theorem bytes_np_path (hR : Rt) (s : ByteArray) : ((evN hR).call [] 5 #[.slice none 0 0, .string s] [] B0).path [true, false, true, true, false, false, true, true, false, true, false, true, true, true, true, true, false, true, false, false, true, true, true, true, true, false, false, true, true, true, true, true, true, true, true, true, true, true, true, true, true, true, true, true, true, true, true, true, true, true, true, false, true, true, true, true, true, true, true, true, true, true, true, true, false, true, false, true, true, true, true, true, true, true, true, true, true, false, true, false, false, true, true, true, true, true, true, true, true, true, true, true, true, true, true, true, true, true, true, true, true, true, true, true, true, true, true, true, true, true, true, true, true, true, true, false, true, false, true, true, true, true, true, true, true, true, true, true, false, true, false, false, true, true, true, false, false, true, true, true] = some ([true,
  false,
  true,
  true,
  false,
  false,
  true,
  true,
  false,
  true,
  false,
  true,
  true,
  true,
  true,
  true,
  decide ((↑(ByteArray.size s) : Int) > 1000),
  true,
  false,
  false,
  true,
  true,
  true,
  true,
  true,
  false,
  false,
  true,
  true,
  true,
  true,
  true,
  true,
  true,
  true,
  true,
  true,
  true,
  true,
  decide (ByteArray.size s ≤ 1048576),
  unhexK s,
  true,
  true,
  true,
  true,
  true,
  true,
  true,
  true,
  decide (ByteArray.size s ≤ 1048576),
  unhexK s,
  decide (List.length (unhexV s) = 0),
  true,
  true,
  true,
  true,
  true,
  true,
  true,
  true,
  true,
  true,
  true,
  true,
  false,
  true,
  false,
  true,
  true,
  true,
  Nat.ble (0 + List.length (unhexV s)) (Array.size { toList := u8L (unhexV s) }) &&
  allV isU8 (Array.toList (fext { toList := u8L (unhexV s) } 0 (0 + List.length (unhexV s)))),
  true,
  true,
  true,
  Nat.ble (0 + List.length (unhexV s)) (Array.size { toList := u8L (unhexV s) }) &&
  allV isU8 (Array.toList (fext { toList := u8L (unhexV s) } 0 (0 + List.length (unhexV s)))),
  true,
  true,
  !ByteArray.toList (bytesOf (Array.toList (fext { toList := u8L (unhexV s) } 0 (0 + List.length (unhexV s))))) ==
    ByteArray.toList (bytesOf (Array.toList (fext { toList := u8L (unhexV s) } 0 (0 + List.length (unhexV s))))),
  true,
  false,
  false,
  true,
  true,
  true,
  true,
  true,
  true,
  true,
  true,
  true,
  true,
  true,
  true,
  true,
  true,
  true,
  true,
  true,
  true,
  true,
  true,
  true,
  true,
  true,
  true,
  true,
  true,
  true,
  true,
  true,
  true,
  true,
  true,
  true,
  true,
  false,
  true,
  false,
  true,
  true,
  true,
  true,
  true,
  true,
  true,
  true,
  true,
  true,
  false,
  true,
  false,
  false,
  true,
  true,
  true,
  false,
  false,
  true,
  true,
  true], Value.bool true) := by kernel_rfl
theorem bytes_nl_path (hR : Rt) (s : ByteArray) : ((evN hR).call [] 5 #[.slice none 0 0, .string s] [] B0).path [true, false, true, true, false, false, true, true, false, true, false, true, true, true, true, true, true, true, true, true, true, true, true] = some ([true,
  false,
  true,
  true,
  false,
  false,
  true,
  true,
  false,
  true,
  false,
  true,
  true,
  true,
  true,
  true,
  decide ((↑(ByteArray.size s) : Int) > 1000),
  true,
  true,
  true,
  true,
  true,
  true], Value.bool true) := by kernel_rfl
theorem u8L_len (l : List UInt8) : (u8L l).length = l.length := List.length_map ..
theorem isB8_u8L (l : List UInt8) : allV isB8 (u8L l) = true := by
  rw [allV_eq, List.all_eq_true]
  intro v hv
  unfold u8L at hv
  obtain ⟨c, _, rfl⟩ := List.mem_map.1 hv
  have := c.toNat_lt
  show (decide ((0 : Int) ≤ (c.toNat : Int)) && decide ((c.toNat : Int) ≤ 255)) = true
  simp only [Bool.and_eq_true, decide_eq_true_eq]
  omega
theorem isU8_u8L (l : List UInt8) : allV isU8 (u8L l) = true := by
  rw [allV_eq, List.all_eq_true]
  intro v hv
  unfold u8L at hv
  obtain ⟨c, _, rfl⟩ := List.mem_map.1 hv
  rfl
theorem bytesIn_u8L (l : List UInt8) : bytesIn (u8L l) = l := by
  unfold bytesIn u8L
  rw [List.map_map]
  conv => rhs; rw [← List.map_id l]
  refine List.map_congr_left fun c _ => ?_
  show UInt8.ofNat (((c.toNat : Nat) : Int)).toNat = c
  simp
theorem hexS_u8L (l : List UInt8) : hexS (u8L l) = ⟨(hexL l).toArray⟩ := by unfold hexS; rw [bytesIn_u8L]
theorem hexS_size (l : List UInt8) : (hexS (u8L l)).size = 2 * l.length := by
  rw [hexS_u8L, ← hexL_len]; simp [ByteArray.size]
theorem unhexK_hexS (l : List UInt8) : unhexK (hexS (u8L l)) = true := by
  rw [hexS_u8L]; unfold unhexK
  show (unhexL (hexL l)).isSome = true
  rw [unhex_hex]; rfl
theorem unhexV_hexS (l : List UInt8) : unhexV (hexS (u8L l)) = l := by
  rw [hexS_u8L]; unfold unhexV
  show (unhexL (hexL l)).getD [] = l
  rw [unhex_hex]; rfl
theorem fext_u8L (l : List UInt8) : (fext ⟨u8L l⟩ 0 (0 + l.length)).toList = u8L l := by
  rw [fext_eq]
  have : 0 + l.length = (Array.mk (u8L l)).size := by show _ = (u8L l).length; rw [u8L_len]; omega
  rw [this, Array.extract_size]
theorem back_ok (l : List UInt8) : (Nat.ble (0 + l.length) (Array.mk (u8L l)).size && allV isU8 (fext ⟨u8L l⟩ 0 (0 + l.length)).toList) = true := by
  rw [fext_u8L, isU8_u8L, Bool.and_true, Nat.ble_eq]
  show _ ≤ (u8L l).length; rw [u8L_len]; omega
theorem back_none {l : List UInt8} (h : l.length = 0) : (bytesOf (fext ⟨u8L l⟩ 0 (0 + l.length)).toList).toList = ByteArray.toList ⟨⟨[]⟩⟩ := by
  have : l = [] := List.length_eq_zero_iff.1 h
  subst this; rw [fext_u8L]; rfl
theorem args_ok {off : Nat} (l : List UInt8) (h : l.length ≤ 1000) : (Nat.beq off off && (Nat.beq l.length (u8L l).length && (decide (l.length ≤ 1048576) && allV isB8 (u8L l)))) = true := by
  rw [isB8_u8L, u8L_len]
  simp only [Bool.and_eq_true, Nat.beq_eq, decide_eq_true_eq]
  exact ⟨trivial, trivial, by omega, trivial⟩
theorem int_gt {n : Nat} (h : 1000 < n) : decide ((n : Int) > 1000) = true := by rw [decide_eq_true_eq]; omega
theorem int_le {n : Nat} (h : n ≤ 1000) : decide ((n : Int) > 1000) = false := by rw [decide_eq_false_iff_not]; omega
theorem nat_le {n : Nat} (h : n ≤ 1000) : decide (n ≤ 1048576) = true := by rw [decide_eq_true_eq]; omega
theorem not_beq (l : List UInt8) : (!l == l) = false := by simp
theorem not_beq' {l m : List UInt8} (h : l = m) : (!l == m) = false := by subst h; simp
variable (hR : Rt)
include hR
theorem bytes_some (blk cap off : Nat) (bs : List UInt8) (hb : ∀ (j : Nat) v, (u8L bs)[j]? = some v → rootW.cell? ⟨blk, off + j, none⟩ = some v) (s : ByteArray) :
    ((evB hR blk cap off bs hb).call [] 5 #[.slice (some ⟨B0, off, none⟩) bs.length (B0 + 1), .string s] [] (B0 + 2)).holds fun r => r.v = .bool true := by
  rcases Nat.lt_or_ge 1000 bs.length with h1 | h1
  · exact Tree.path_holds (bytes_lb_path hR blk cap off bs hb s) (by rw [int_gt h1])
  rcases Nat.lt_or_ge 1000 s.size with h2 | h2
  · exact Tree.path_holds (bytes_ls_path hR blk cap off bs hb s) (by rw [int_gt h2, int_le h1])
  have e1 := int_le h1
  have e2 := int_le h2
  have e3 := args_ok (off := off) bs h1
  have e4 := not_beq (hexS (u8L bs)).toList
  have e5 := nat_le h2
  have e6 := unhexK_hexS bs
  have e7 : decide ((hexS (u8L bs)).size ≤ 1048576) = true := by rw [hexS_size, decide_eq_true_eq]; omega
  have e8 := back_ok (unhexV (hexS (u8L bs)))
  have e9 := back_ok (unhexV s)
  have ea := not_beq (bytesOf (fext ⟨u8L (unhexV (hexS (u8L bs)))⟩ 0 (0 + (unhexV (hexS (u8L bs))).length)).toList).toList
  have eb := not_beq (bytesOf (fext ⟨u8L (unhexV s)⟩ 0 (0 + (unhexV s).length)).toList).toList
  rcases Nat.eq_zero_or_pos (unhexV (hexS (u8L bs))).length with hz | hz
  · have ec := decide_eq_true (hz)
    have ed := not_beq' (back_none hz)
    cases hk : unhexK s
    · exact Tree.path_holds (bytes_zn_path hR blk cap off bs hb s) (by rw [e1, e2, e3, e4, e5, e6, e7, hk, e8, ec, ed])
    · rcases Nat.eq_zero_or_pos (unhexV s).length with hy | hy
      · have ee := decide_eq_true (hy)
        have ef := not_beq' (back_none hy)
        exact Tree.path_holds (bytes_zz_path hR blk cap off bs hb s) (by rw [e1, e2, e3, e4, e5, e6, e7, hk, e8, ec, ed, e9, ee, ef])
      · have ee := decide_eq_false (show ¬ (unhexV s).length = 0 by omega)
        exact Tree.path_holds (bytes_zp_path hR blk cap off bs hb s) (by rw [e1, e2, e3, e4, e5, e6, e7, hk, e8, ec, ed, e9, ee, eb])
  · have ec := decide_eq_false (show ¬ (unhexV (hexS (u8L bs))).length = 0 by omega)
    cases hk : unhexK s
    · exact Tree.path_holds (bytes_pn_path hR blk cap off bs hb s) (by rw [e1, e2, e3, e4, e5, e6, e7, hk, e8, ec, ea])
    · rcases Nat.eq_zero_or_pos (unhexV s).length with hy | hy
      · have ee := decide_eq_true (hy)
        have ef := not_beq' (back_none hy)
        exact Tree.path_holds (bytes_pz_path hR blk cap off bs hb s) (by rw [e1, e2, e3, e4, e5, e6, e7, hk, e8, ec, ea, e9, ee, ef])
      · have ee := decide_eq_false (show ¬ (unhexV s).length = 0 by omega)
        exact Tree.path_holds (bytes_pp_path hR blk cap off bs hb s) (by rw [e1, e2, e3, e4, e5, e6, e7, hk, e8, ec, ea, e9, ee, eb])
theorem bytes_none (s : ByteArray) :
    ((evN hR).call [] 5 #[.slice none 0 0, .string s] [] B0).holds fun r => r.v = .bool true := by
  rcases Nat.lt_or_ge 1000 s.size with h2 | h2
  · exact Tree.path_holds (bytes_nl_path hR s) (by rw [int_gt h2])
  have e2 := int_le h2
  have e5 := nat_le h2
  have e9 := back_ok (unhexV s)
  have eb := not_beq (bytesOf (fext ⟨u8L (unhexV s)⟩ 0 (0 + (unhexV s).length)).toList).toList
  cases hk : unhexK s
  · exact Tree.path_holds (bytes_nn_path hR s) (by rw [e2, e5, hk])
  · rcases Nat.eq_zero_or_pos (unhexV s).length with hy | hy
    · have ee := decide_eq_true (hy)
      have ef := not_beq' (back_none hy)
      exact Tree.path_holds (bytes_nz_path hR s) (by rw [e2, e5, hk, e9, ee, ef])
    · have ee := decide_eq_false (show ¬ (unhexV s).length = 0 by omega)
      exact Tree.path_holds (bytes_np_path hR s) (by rw [e2, e5, hk, e9, ee, eb])
theorem textBytes_some (blk cap off : Nat) (bs : List UInt8) (hb : ∀ (j : Nat), j < bs.length → rootW.cell? ⟨blk, off + j, none⟩ = some (u8 bs[j]!)) (s : ByteArray) (w : World) (hw : Held w) :
    Calls Tryd.prog 5 #[.slice (some ⟨blk, off, none⟩) bs.length cap, .string s] w fun e w' => e = .returned (.bool true) ∧ Below w.heap.size w w' := by
  have hb2 : ∀ (j : Nat) v, (u8L bs)[j]? = some v → rootW.cell? ⟨blk, off + j, none⟩ = some v := fun j v hv => by
    unfold u8L at hv
    rw [List.getElem?_map] at hv
    rcases Nat.lt_or_ge j bs.length with hj | hj
    · rw [List.getElem?_eq_getElem hj] at hv
      cases hv
      rw [hb j hj, getElem!_pos bs j hj]
    · rw [List.getElem?_eq_none hj] at hv; cases hv
  letI : Inhabited Names := ⟨namesB blk cap off bs hb2⟩
  have h := calls_law (envS.mem false ((pkKnown hR).mem :: memsT hR)) hcokP 80 (v := .bool true) (bytes_some hR blk cap off bs hb2 s) rfl (by unfold B0; omega)
    (fun b hb => by show (if b = B0 then _ else if b = B0 + 1 then _ else b) = b; rw [if_neg (by omega), if_neg (by omega)]) (Nat.le_refl _) ?_ w hw
  · have e : (#[.slice (some ⟨B0, off, none⟩) bs.length (B0 + 1), .string s] : Array Value).map (ren (default : Names).ρ) = #[.slice (some ⟨blk, off, none⟩) bs.length cap, .string s] := by
      have r1 : (default : Names).ρ B0 = blk := by
        show (if B0 = B0 then blk else if B0 = B0 + 1 then cap else B0) = _
        rw [if_pos rfl]
      have r2 : (default : Names).ρ (B0 + 1) = cap := by
        show (if B0 + 1 = B0 then blk else if B0 + 1 = B0 + 1 then cap else B0 + 1) = _
        rw [if_neg (by omega), if_pos rfl]
      simp [ren, r1, r2]
    rw [e] at h; exact h
  · intro v hv
    simp only [List.mem_toArray, List.mem_cons, List.not_mem_nil, or_false] at hv
    rcases hv with rfl | rfl
    · simp only [bel, Bool.and_eq_true, blt_iff]; omega
    · rfl
theorem textBytes_none (s : ByteArray) (w : World) (hw : Held w) :
    Calls Tryd.prog 5 #[.slice none 0 0, .string s] w fun e w' => e = .returned (.bool true) ∧ Below w.heap.size w w' := by
  have h := calls_law (envS.mem false ((pkKnown hR).mem :: memsT hR)) hcokP 80 (v := .bool true) (bytes_none hR s) rfl (Nat.le_refl _)
    (fun b hb => rfl) (Nat.zero_le _) ?_ w hw
  · have e : (#[.slice none 0 0, .string s] : Array Value).map (ren (default : Names).ρ) = #[.slice none 0 0, .string s] := by
      simp [ren]; rfl
    rw [e] at h; exact h
  · intro v hv
    simp only [List.mem_toArray, List.mem_cons, List.not_mem_nil, or_false] at hv
    rcases hv with rfl | rfl
    · simp only [bel, blt_iff, B0]; omega
    · rfl
end

end Go.Proofs.YtfjfmcnnakfjnaaDoor


/-
  Statements that list variables, and whose arguments lie in memory: from the row's condition to what the walks ask.
-/














namespace Go.Proofs.YtfjfmcnnakfjnaaDoor

open Go.ChangeShapes Go.WideShapes Go.ChangeAt Go.RowKit Go.Den

set_option maxRecDepth 100000

theorem laidOut : laidOutB Tryd.prog = true := by kernel_rfl
theorem returnsInHanded_laid {H : Type} {enc : TypeId × Value → H} {a : Assume} {C : Checked} {os : Os} {f : FuncId} {fn : Func} {s : ChangeSpec} {conds : List PathCond} {apart fresh handsOn again : Bool} {laid : List (String × DataW Unit)}
    (own : ownKnob C.prog.godebug = none) (started : os.Started) (noInit : C.prog.inits.idxOf? f = none) (hfn : C.prog.funcs[f]? = some fn)
    (witness : ∃ (w : World) (tape : Tape) (i : Input), w.os = os ∧ (w.forCall tape i).Shaped C.prog ∧ i.vars = [] ∧ Input.okWide C.prog (w.forCall tape i) .any w.heap.size f i ∧
      ((s.pre enc C.prog fn conds apart (w.forCall tape i).memory i.args ∧ laidMetH C.prog laid (w.forCall tape i).memory) ∧ sizedMet enc C.prog fn (OpenSpec.ofChange s) apart (w.forCall tape i).memory i.args) ∧ a.holds C.prog (lone (Frame.enter C.prog f i.args .normal) [] (w.forCall tape i)))
    (contract : ∀ (W : World) (base : Nat) (args : Array Value) (ds gs : List (DataW H)) (before : List MemPlace),
      (∀ (j : Nat) t v, fn.params[j]? = some t → args[j]? = some v → Value.okWide C.prog W .any base t v) →
      DataW.Whole enc C.prog fn.params.toList s.vars apart W args.toList ds gs before →
      laidMetH C.prog laid W → W.ShapedOpen C.prog →
      Calls C.prog f args W fun e W' => ∃ v, e = .returned v ∧ s.post enc C.prog fn apart fresh handsOn again W args v W') :
    ReturnsInHanded a C os f .any (fun w args => (s.pre enc C.prog fn conds apart w args ∧ laidMetH C.prog laid w) ∧ sizedMet enc C.prog fn (OpenSpec.ofChange s) apart w args) (s.post enc C.prog fn apart fresh handsOn again) := by
  refine returnsInHanded_of_calls own started noInit witness ?_
  intro w tape i _ hsh _ hok hpre hholds
  obtain ⟨_, _, _, fn', hfn', _, _, _, _, hval⟩ := hok
  have e : fn' = fn := Option.some.inj (hfn'.symm.trans hfn)
  subst e
  obtain ⟨⟨⟨ds, gs, before, hw, hc⟩, hx⟩, hz⟩ := hpre
  have hw' := DataW.Whole.of_heap (w' := w.forCall tape i) (by rfl) hw
  refine (contract (w.forCall tape i) w.heap.size i.args ds gs before hval hw' (hx.of_heap (by rfl)) hsh).mono fun e W' ⟨v, he, hp⟩ => ?_
  subst he
  exact ChangeSpec.post_blind hp
theorem maxIs_of {W : World} (h : W.ShapedOpen Tryd.prog) : MaxIs W :=
  cell_of_shapedOpen_int (zero := #[.int .i64 0]) (t := 3) h (of_decide_eq_true (by kernel_rfl)) (by kernel_rfl) rfl (by kernel_rfl) (by kernel_rfl) Tryd.underlying3
theorem pow10_eq : (Rows.laid_internal_strconv_uint64pow10 : DataW Unit) = Lib.tabData .u64 Lib.pow10Tab := by kernel_rfl
theorem tab_of {W : World} {x y : String × DataW Unit} {r : List (String × DataW Unit)} (h : laidMet Tryd.prog (x :: y :: ("internal/strconv.uint64pow10", Rows.laid_internal_strconv_uint64pow10) :: r) W) : Tab W := by
  rw [pow10_eq] at h
  exact Lib.tabIs_of_head (g := 3) (t := 26) (by kernel_rfl) (by kernel_rfl) Tryd.underlying26 Tryd.underlying22 (by kernel_rfl) (by kernel_rfl) h.tail.tail
/-- A slice of bytes that came in. -/
def BytesArg (w : World) (v : Value) (bs : List UInt8) : Prop :=
  (v = .slice none 0 0 ∧ bs = []) ∨ ∃ blk off cap : Nat, v = .slice (some ⟨blk, off, none⟩) bs.length cap ∧ ∀ j : Nat, j < bs.length → w.cell? ⟨blk, off + j, none⟩ = some (u8 bs[j]!)
theorem spot_of {w : World} {base : Nat} {t e : TypeId} {a : Addr} {len cap : Nat} (ht : Tryd.prog.underlying t = some (.slice e)) (h : Value.okWide Tryd.prog w .any base t (.slice (some a) len cap)) : a.spot = none := by
  unfold Value.okWide at h
  rw [ht] at h
  unfold Cell.okWide at h
  rw [ht] at h
  unfold Cell.ok at h
  rw [ht] at h
  exact h.2.2.2.1
theorem open_bytes {H : Type} {enc : TypeId × Value → H} {w : World} {b0 base : Nat} {spare : Nat → Bool} {held : Bool} {v : Value} {d : DataW H} {p : List MemPlace}
    (hv : Value.okWide Tryd.prog w .any b0 51 v) (h : DataW.Trod enc Tryd.prog w base spare held 51 v d p) : ∃ bs, BytesArg w v bs := by
  obtain ⟨a0, len0, cap0, rfl⟩ := okWide_slice Tryd.underlying51 hv
  obtain ⟨fuel, hf⟩ := h
  rcases open_ints Tryd.underlying51 Tryd.underlying5 (by kernel_rfl) hf with ⟨hcs, hx⟩ | ⟨a, len, cap, zs, hcs, _, hl, hm, hz, hx, hcell, hwz⟩
  · simp [Value.cells] at hcs
    obtain ⟨rfl, rfl, rfl⟩ := hcs
    exact ⟨[], .inl ⟨rfl, rfl⟩⟩
  · simp [Value.cells] at hcs
    obtain ⟨rfl, rfl, rfl⟩ := hcs
    obtain ⟨blk, off, spot⟩ := a
    have hspot : spot = none := spot_of Tryd.underlying51 hv
    subst hspot
    have hlz : len0 ≤ zs.length := by rw [hz]; split <;> omega
    refine ⟨(zs.take len0).map fun z => UInt8.ofNat z.toNat, .inr ⟨blk, off, cap0, ?_, fun j hj => ?_⟩⟩
    · rw [List.length_map, List.length_take, Nat.min_eq_left hlz]
    · have hj2 : j < len0 := by simpa [List.length_take, Nat.min_eq_left hlz] using hj
      have hj3 : j < zs.length := by omega
      have hc := hcell j hj3
      rw [add_plain] at hc
      rw [hc]
      have e : zs.getD j 0 = zs[j] := by rw [List.getD_eq_getElem?_getD, List.getElem?_eq_getElem hj3]; rfl
      have hw := hwz zs[j] (List.getElem_mem hj3)
      simp [Lit.wf, IntKind.min, IntKind.max, IntKind.signed, IntKind.bits] at hw
      rw [getElem!_pos _ j hj, List.getElem_map, List.getElem_take, e]
      have : (UInt8.ofNat zs[j].toNat).toNat = zs[j].toNat := by simp; omega
      show some (Value.int .u8 _) = some (.int .u8 (((UInt8.ofNat zs[j].toNat).toNat : Nat) : Int))
      rw [this]; congr 2; omega
theorem open_str {H : Type} {enc : TypeId × Value → H} {w : World} {b0 base : Nat} {spare : Nat → Bool} {held : Bool} {v : Value} {d : DataW H} {p : List MemPlace}
    (hv : Value.okWide Tryd.prog w .any b0 9 v) (h : DataW.Trod enc Tryd.prog w base spare held 9 v d p) : ∃ s : ByteArray, v = .string s ∧ s.size ≤ maxLen := by
  obtain ⟨s, rfl, _, _, hs⟩ := Go.ChangeMaps.open_string Tryd.underlying9 hv h
  exact ⟨s, rfl, hs⟩
end Go.Proofs.YtfjfmcnnakfjnaaDoor


/-
  The statement TextBytes, for bytes however they came in.
-/

namespace Go.Proofs.YtfjfmcnnakfjnaaDoor

open Go.Den Go.RowKit

theorem textBytes_walk [Inhabited Root] (hR : Rt) (v : Value) (bs : List UInt8) (hb : BytesArg rootW v bs) (s : ByteArray) (w : World) (hw : Held w) :
    Calls Tryd.prog 5 #[v, .string s] w fun e w' => e = .returned (.bool true) ∧ Below w.heap.size w w' := by
  rcases hb with ⟨rfl, rfl⟩ | ⟨blk, off, cap, rfl, hc⟩
  · exact textBytes_none hR s w hw
  · exact textBytes_some hR blk cap off bs hc s w hw
end Go.Proofs.YtfjfmcnnakfjnaaDoor


/-
  Fields joined by a blank are the line; what a text's number says of the text.
-/

namespace Go.Proofs.YtfjfmcnnakfjnaaDoor

open Go.Den Go.RowKit

set_option maxRecDepth 100000

theorem ext_list (s : ByteArray) (a b : Nat) : (s.extract a b).data.toList = (s.data.toList.take b).drop a := by
  rw [ByteArray.data_extract, Array.toList_extract]
  simp [List.extract, List.drop_take]
theorem join_split : ∀ (k : Nat) (s : ByteArray), Lib.join ((Lib.splitB ⟨#[32]⟩ 0 k s).map (·.data.toList)) [32] = s.data.toList := by
  intro k
  induction k with
  | zero => intro s; exact Lib.join_one _ _
  | succ k ih =>
    intro s
    rcases Lib.indexB_cases s ⟨#[32]⟩ with h | ⟨i, h, hi⟩
    · rw [Lib.splitB_miss _ _ _ _ h]; exact Lib.join_one _ _
    · rw [Lib.splitB_hit _ _ _ _ i h]
      have h2 : Lib.indexByte s.data.toList 32 = i := by rw [← Lib.index_one]; exact h
      obtain ⟨hc, _⟩ := Lib.indexByte_some h2
      have ih2 := ih (s.extract (i + 1) s.size)
      have hlt : i < s.data.toList.length := (List.getElem?_eq_some_iff.1 hc).1
      have hg : s.data.toList[i] = 32 := (List.getElem?_eq_some_iff.1 hc).2
      have hsz : s.data.toList.length = s.size := size_data s
      rw [List.map_cons]
      have e1 : (ByteArray.mk #[32]).size = 1 := rfl
      rw [e1]
      generalize hr : Lib.splitB ⟨#[32]⟩ 0 k (s.extract (i + 1) s.size) = r at ih2 ⊢
      have hl : s.data.toList = s.data.toList.take i ++ 32 :: s.data.toList.drop (i + 1) := by
        rw [← hg, List.getElem_cons_drop hlt, List.take_append_drop]
      rw [ext_list, Nat.add_zero, List.drop_zero, Lib.join_cons]
      rw [ext_list, List.take_of_length_le (by omega)] at ih2
      conv => rhs; rw [hl, ← ih2]
      congr 1
      cases r with
      | nil => cases k <;> simp [Lib.splitB] at hr
               split at hr <;> cases hr
      | cons y r =>
        rw [List.map_cons, Lib.join_cons]
        simp [Lib.joinTail]
theorem strsIn_strs (l : List ByteArray) : strsIn (l.map Value.string) = l := by
  unfold strsIn
  rw [List.map_map]
  conv => rhs; rw [← List.map_id l]
  rfl
theorem isStr_strs (l : List ByteArray) : allV isStr (l.map Value.string) = true := by
  rw [allV_eq, List.all_eq_true]
  intro v hv
  obtain ⟨c, _, rfl⟩ := List.mem_map.1 hv
  rfl
theorem fext_all (l : List Value) (n : Nat) (h : n = l.length) : (fext ⟨l⟩ 0 (0 + n)).toList = l := by
  subst h
  rw [fext_eq]
  have : 0 + l.length = (Array.mk l).size := by show _ = l.length; omega
  rw [this, Array.extract_size]
theorem joinS_fields (s : ByteArray) : joinS ((fieldsS s).map Value.string) ⟨#[32]⟩ = s := by
  unfold joinS
  rw [strsIn_strs]
  have : (Lib.join ((fieldsS s).map (·.data.toList)) [32]).toArray = s.data := by rw [fieldsS, join_split]
  exact congrArg ByteArray.mk this
theorem join_ok (s : ByteArray) (h : s.size ≤ 1000) : (Nat.ble (0 + (fieldsS s).length) (Array.mk ((fieldsS s).map Value.string)).size && (decide ((fieldsS s).length ≤ 1048577) && (Nat.ble (Nat.succ (fieldsS s).length) 1099511627776 && (Nat.ble (fieldsS s).length (fieldsS s).length && (allV isStr (fext ⟨(fieldsS s).map Value.string⟩ 0 (0 + (fieldsS s).length)).toList && decide ((joinS (fext ⟨(fieldsS s).map Value.string⟩ 0 (0 + (fieldsS s).length)).toList ⟨⟨[32]⟩⟩).size ≤ 140737488355328)))))) = true := by
  have hl := fieldsS_le s
  rw [fext_all _ _ (List.length_map ..).symm, isStr_strs]
  have : joinS ((fieldsS s).map Value.string) ⟨⟨[32]⟩⟩ = s := joinS_fields s
  rw [this]
  simp only [Bool.and_eq_true, Nat.ble_eq, decide_eq_true_eq]
  refine ⟨?_, by omega, by omega, Nat.le_refl _, trivial, by omega⟩
  show _ ≤ ((fieldsS s).map Value.string).length
  rw [List.length_map]; omega
theorem join_eq (s : ByteArray) : ((joinS (fext ⟨(fieldsS s).map Value.string⟩ 0 (0 + (fieldsS s).length)).toList ⟨⟨[32]⟩⟩).toList == s.toList) = true := by
  rw [fext_all _ _ (List.length_map ..).symm]
  have : joinS ((fieldsS s).map Value.string) ⟨⟨[32]⟩⟩ = s := joinS_fields s
  rw [this]; simp
theorem count_eq (s : ByteArray) : Lib.countB s ⟨#[32]⟩ = Lib.countByte s.data.toList 32 := Lib.count_one 32 s.data.toList
theorem wrap_small {n : Nat} (h : n ≤ 1048576) : IntKind.wrap .i64 ((n : Int) + 1) = (n : Int) + 1 := by
  simp [IntKind.wrap, IntKind.signed, IntKind.bits]; omega
theorem count_ok (s : ByteArray) (h : s.size ≤ 1000) : decide (((fieldsS s).length : Int) ≤ IntKind.wrap .i64 (((Lib.countByte s.1.toList 32 : Nat) : Int) + 1)) = true := by
  have hl := fieldsS_len s
  rw [count_eq] at hl
  have hle := fieldsS_le s
  have : Lib.countByte s.1.toList 32 = Lib.countByte s.data.toList 32 := rfl
  rw [this, wrap_small (by omega), hl, decide_eq_true_eq]; omega
theorem count_zero (s : ByteArray) (h : s.size ≤ 1000) : decide ((0 : Int) ≤ IntKind.wrap .i64 (((Lib.countByte s.1.toList 32 : Nat) : Int) + 1)) = true := by
  have hl := fieldsS_len s
  rw [count_eq] at hl
  have hle := fieldsS_le s
  have : Lib.countByte s.1.toList 32 = Lib.countByte s.data.toList 32 := rfl
  rw [this, wrap_small (by omega), decide_eq_true_eq]; omega
theorem fields_pos (s : ByteArray) : (((fieldsS s).length : Int) == 0) = false := by
  have := fieldsS_len s
  rw [beq_eq_false_iff_ne]; omega
end Go.Proofs.YtfjfmcnnakfjnaaDoor


/-
  What a text says of its number, and the other way round.
-/

namespace Go.Proofs.YtfjfmcnnakfjnaaDoor

open Go.Den Go.RowKit
noncomputable section
set_option maxRecDepth 100000

set_option linter.unusedSectionVars false

variable [Inhabited Root]

theorem tx_data (n : Int) : (tx n).data.toList = Lib.itoa n := by unfold tx; rfl
theorem udK_tx {n : Int} (h0 : -9223372036854775808 ≤ n) (h1 : n ≤ 9223372036854775807) : udK (tx n) = true := by unfold udK; rw [tx_data, ud_itoa h0 h1]; rfl
theorem udV_tx {n : Int} (h0 : -9223372036854775808 ≤ n) (h1 : n ≤ 9223372036854775807) : udV (tx n) = n := by unfold udV; rw [tx_data, ud_itoa h0 h1]; rfl
theorem uuK_tx {n : Int} (h0 : 0 ≤ n) (h1 : n ≤ 18446744073709551615) : uuK (tx n) = true := by unfold uuK; rw [tx_data, uu_itoa h0 h1]; rfl
theorem uuV_tx {n : Int} (h0 : 0 ≤ n) (h1 : n ≤ 18446744073709551615) : uuV (tx n) = n := by unfold uuV; rw [tx_data, uu_itoa h0 h1]; rfl
theorem uwK_tx {n : Int} (h : InR n) : uwK (tx n) = true := by unfold uwK; rw [tx_data, uw_itoa h]; rfl
theorem uwV_tx {n : Int} (h : InR n) : uwV (tx n) = n := by unfold uwV; rw [tx_data, uw_itoa h]; rfl
theorem tx_of {l : List UInt8} {s : ByteArray} {v : Int} (hl : l = s.data.toList) (h : Lib.itoa v = l) : tx v = s := by
  unfold tx; rw [h, hl]
theorem udV_ok {s : ByteArray} (h : udK s = true) : okI (udV s) = true ∧ tx (udV s) = s := by
  unfold udK at h; unfold udV
  obtain ⟨v, hv⟩ := Option.isSome_iff_exists.1 h
  obtain ⟨a, b, c⟩ := ud_some hv
  rw [hv]
  exact ⟨okI_iff.2 ⟨b, c⟩, tx_of rfl a⟩
theorem uuV_ok {s : ByteArray} (h : uuK s = true) : okU (uuV s) = true ∧ tx (uuV s) = s := by
  unfold uuK at h; unfold uuV
  obtain ⟨v, hv⟩ := Option.isSome_iff_exists.1 h
  obtain ⟨a, b, c⟩ := uu_some hv
  rw [hv]
  exact ⟨okU_iff.2 ⟨b, c⟩, tx_of rfl a⟩
theorem uwV_ok {s : ByteArray} (h : uwK s = true) : tx (uwV s) = s := by
  unfold uwK at h; unfold uwV
  obtain ⟨v, hv⟩ := Option.isSome_iff_exists.1 h
  rw [hv]
  exact tx_of rfl (uw_some hv).1
theorem no_uw {s : ByteArray} (h : uwK s = false) : udK s = false ∧ uuK s = false := by
  unfold uwK at h
  have hn : uwS s.data.toList = none := by
    cases e : uwS s.data.toList with
    | none => rfl
    | some v => rw [e] at h; cases h
  unfold udK uuK udS uuS
  rw [hn]
  exact ⟨rfl, rfl⟩
theorem itoa_ne (v : Int) : Lib.itoa v ≠ [] := by
  unfold Lib.itoa
  split
  · intro h; cases h
  · exact decDigits_ne _
theorem data_nil {s : ByteArray} (h : s.size = 0) : s = ⟨#[]⟩ := by
  have : s.data.size = 0 := h
  obtain ⟨d⟩ := s
  congr 1
  exact Array.size_eq_zero_iff.1 this
theorem empty_k {s : ByteArray} (h : s.size = 0) : udK s = false ∧ uuK s = false ∧ uwK s = false ∧ unhexK s = true := by
  rw [data_nil h]
  have h1 : uwK ⟨#[]⟩ = false := by
    cases e : uwK ⟨#[]⟩ with
    | false => rfl
    | true =>
      unfold uwK at e
      obtain ⟨v, hv⟩ := Option.isSome_iff_exists.1 e
      have := (uw_some hv).1
      have h2 : Lib.itoa v ≠ [] := itoa_ne v
      exact absurd this h2
  obtain ⟨h2, h3⟩ := no_uw h1
  exact ⟨h2, h3, h1, by rfl⟩
theorem empty_eq {s : ByteArray} (h : s.size = 0) : (ByteArray.toList ⟨⟨[]⟩⟩ == s.toList) = true := by rw [data_nil h]; exact beq_self_eq_true (ByteArray.toList ⟨#[]⟩)
theorem empty_eq2 {s : ByteArray} (h : s.size = 0) : (s.toList == ByteArray.toList ⟨⟨[]⟩⟩) = true := by rw [data_nil h]; exact beq_self_eq_true (ByteArray.toList ⟨#[]⟩)
theorem nonempty_eq {s : ByteArray} (h : ¬ s.size = 0) : (s.toList == ByteArray.toList ⟨⟨[]⟩⟩) = false := by
  rw [beq_eq_false_iff_ne]
  intro e
  rw [ByteArray.toList_eq, ByteArray.toList_eq] at e
  exact h (by rw [← size_data, e]; rfl)
theorem dw_ok {w : Int} (iw : InR w) : (okW (hi w) (lo w) && (decide (-170141183460469231731687303715884105729 < W2 (hi w) (lo w)) && decide (W2 (hi w) (lo w) < 170141183460469231731687303715884105729))) = true := by
  rw [okW_hilo iw, W2_hilo]
  unfold InR at iw
  simp only [Bool.and_eq_true, decide_eq_true_eq]
  exact ⟨trivial, by omega, by omega⟩
theorem args_ok8 {off : Nat} (l : List UInt8) : (Nat.beq off off && (Nat.beq l.length (u8L l).length && allV isU8 (u8L l))) = true := by
  rw [isU8_u8L, u8L_len]
  simp only [Bool.and_eq_true, Nat.beq_eq]
  exact ⟨trivial, trivial, trivial⟩
theorem unhexV_len {s : ByteArray} (h : s.size ≤ 1000) : (unhexV s).length ≤ 1000 := by
  rcases unhex_cases s with ⟨h1, h2⟩ | ⟨n, h1, h2, h3⟩ | ⟨n, h1, h2, h3, h4, h5⟩
  · unfold unhexK at h2; unfold unhexV
    cases e : unhexL s.data.toList with
    | none => exact Nat.zero_le _
    | some v => rw [e] at h2; cases h2
  · unfold unhexK at h3; unfold unhexV
    cases e : unhexL s.data.toList with
    | none => exact Nat.zero_le _
    | some v => rw [e] at h3; cases h3
  · omega
theorem unhex_ok (s : ByteArray) (h : s.size ≤ 1000) : (Nat.ble (0 + (unhexV s).length) (Array.mk (u8L (unhexV s))).size && (decide ((unhexV s).length ≤ 1048576) && allV isB8 (fext ⟨u8L (unhexV s)⟩ 0 (0 + (unhexV s).length)).toList)) = true := by
  have := unhexV_len h
  rw [fext_u8L, isB8_u8L]
  simp only [Bool.and_eq_true, Nat.ble_eq, decide_eq_true_eq]
  refine ⟨?_, by omega, trivial⟩
  show _ ≤ (u8L (unhexV s)).length
  rw [u8L_len]; omega
theorem hex_back {s : ByteArray} (h : unhexK s = true) : hexS (fext ⟨u8L (unhexV s)⟩ 0 (0 + (unhexV s).length)).toList = s := by
  rw [fext_u8L, hexS_u8L]
  unfold unhexK at h; unfold unhexV
  obtain ⟨v, hv⟩ := Option.isSome_iff_exists.1 h
  rw [hv]
  show ByteArray.mk (hexL v).toArray = s
  rw [hex_unhex hv]
theorem cmp_less {v w : Int} (iv : InR v) (iw : InR w) (hv : hi v ≥ 0) (hw : hi w ≥ 0) (h : (((tx (W2 (hi v) (lo v))).size : Nat) : Int) < (((tx (W2 (hi w) (lo w))).size : Nat) : Int)) :
    decide (cmpI (W2 (hi v) (lo v)) (W2 (hi w) (lo w)) ≥ 0) = false := by
  rw [W2_hilo, W2_hilo] at *
  have e : ∀ n : Int, (tx n).size = (Lib.itoa n).length := fun n => by rw [← size_data, tx_data]
  rw [e, e] at h
  have v0 : 0 ≤ v := by unfold hi at hv; unfold InR at iv; omega
  have w0 : 0 ≤ w := by unfold hi at hw; unfold InR at iw; omega
  have hlt := itoa_shorter v0 w0 (by omega)
  unfold cmpI
  rw [if_neg (by omega), if_pos hlt]
  rfl
end

end Go.Proofs.YtfjfmcnnakfjnaaDoor


/-
  What the document's number of a text is: the one whose text it is; as an oracle.
-/


namespace Go.Proofs.YtfjfmcnnakfjnaaDoor

open Go.Den Go.RowKit
noncomputable section
set_option maxRecDepth 100000

set_option linter.unusedSectionVars false

theorem uGo_snoc : ∀ (a : List UInt8) (c : UInt8) (n : Int), (uGo a n).1 = true → isDig c = true → uGo (a ++ [c]) n = (true, (uGo a n).2 * 10 + ((c.toNat : Int) - 48))
  | [], c, n, _, hc => by
    show (bif isDig c then uGo [] (n * 10 + ((c.toNat : Int) - 48)) else (false, n)) = _
    rw [hc]; rfl
  | x :: r, c, n, h, hc => by
    show (bif isDig x then uGo (r ++ [c]) (n * 10 + ((x.toNat : Int) - 48)) else (false, n)) = (true, (bif isDig x then uGo r (n * 10 + ((x.toNat : Int) - 48)) else (false, n)).2 * 10 + ((c.toNat : Int) - 48))
    change (bif isDig x then uGo r (n * 10 + ((x.toNat : Int) - 48)) else (false, n)).1 = true at h
    cases hx : isDig x
    · rw [hx] at h; cases h
    · rw [hx] at h
      exact uGo_snoc r c _ h hc
theorem uGo_dec : ∀ (u : Nat), uGo (Lib.decDigits u) 0 = (true, (u : Int)) := by
  intro u
  induction u using Nat.strongRecOn with
  | _ u ih =>
    rw [Lib.decDigits]
    split
    · rename_i hu
      show (bif isDig (UInt8.ofNat (48 + u)) then uGo [] (0 * 10 + (((UInt8.ofNat (48 + u)).toNat : Int) - 48)) else (false, 0)) = _
      rw [isDig_of hu, dig_nat hu]
      show (true, (0 : Int) * 10 + (((48 + u : Nat) : Int) - 48)) = _
      rw [show (0 : Int) * 10 + (((48 + u : Nat) : Int) - 48) = (u : Int) by omega]
    · rename_i hu
      have h1 := ih (u / 10) (by omega)
      have h2 : u % 10 < 10 := Nat.mod_lt _ (by decide)
      rw [uGo_snoc _ _ _ (by rw [h1]) (isDig_of h2), h1, dig_nat h2]
      show (true, ((u / 10 : Nat) : Int) * 10 + (((48 + u % 10 : Nat) : Int) - 48)) = _
      rw [show ((u / 10 : Nat) : Int) * 10 + (((48 + u % 10 : Nat) : Int) - 48) = (u : Int) by omega]
theorem dec_len {u : Nat} (h : u < 10 ^ 59) : (Lib.decDigits u).length ≤ 59 := by
  rw [Lib.decDigits_length]; exact nDigits_le 58 u h
theorem byte0 {s : ByteArray} {c : UInt8} {r : List UInt8} (h : s.data.toList = c :: r) : 0 < s.size ∧ byteAt s 0 = (c.toNat : Int) := by
  obtain ⟨h1, h2, _⟩ := byteAt_eq (s := s) (i := 0) (by rw [List.drop_zero]; exact h)
  exact ⟨h1, h2⟩
def Lim (v : Int) : Prop := -340282366920938463463374607431768211456 ≤ v ∧ v ≤ 340282366920938463463374607431768211456
theorem un_itoa {s : ByteArray} {v : Int} (hv : Lim v) (h : Lib.itoa v = s.data.toList) : uOk0 s = true ∧ sv (uMin s) (uVl s) = v := by
  unfold Lim at hv
  have h59 : (10 : Nat) ^ 59 = 100000000000000000000000000000000000000000000000000000000000 := by rfl
  rcases (by omega : v < 0 ∨ 0 ≤ v) with hn | hn
  · have e : s.data.toList = 45 :: Lib.decDigits v.natAbs := by rw [← h]; unfold Lib.itoa; rw [if_pos hn]
    obtain ⟨h1, h2⟩ := byte0 e
    have hu : uMin s = true := by unfold uMin; rw [h2, decide_eq_true h1]; rfl
    have hf : uFrom s = 1 := by unfold uFrom; rw [hu]; rfl
    have hl : s.size = (Lib.decDigits v.natAbs).length + 1 := by rw [← size_dat, e, List.length_cons]
    have hl2 := dec_len (u := v.natAbs) (by rw [h59]; omega)
    have hl3 : (Lib.decDigits v.natAbs).length ≠ 0 := fun h0 => decDigits_ne _ (List.length_eq_zero_iff.1 h0)
    have hd : uDo s = true := by
      unfold uDo; rw [hf, decide_eq_true (by omega)]
      have : (s.size == 1) = false := by rw [beq_eq_false_iff_ne]; omega
      rw [this]; rfl
    have hg : uGo (s.data.toList.drop 1) 0 = (true, (v.natAbs : Int)) := by rw [e]; exact uGo_dec _
    have ho : uOk0 s = true := by unfold uOk0; rw [hd, hf, hg]; rfl
    have hvl : uVl s = (v.natAbs : Int) := by unfold uVl; rw [hd, hf, hg]; rfl
    refine ⟨ho, ?_⟩
    rw [hu, hvl]; show -((v.natAbs : Nat) : Int) = v; omega
  · have e : s.data.toList = Lib.decDigits v.toNat := by rw [← h]; unfold Lib.itoa; rw [if_neg (by omega)]
    have hl : s.size = (Lib.decDigits v.toNat).length := by rw [← size_dat, e]
    have hl2 := dec_len (u := v.toNat) (by rw [h59]; omega)
    have hl3 : (Lib.decDigits v.toNat).length ≠ 0 := fun h0 => decDigits_ne _ (List.length_eq_zero_iff.1 h0)
    have hu : uMin s = false := by
      cases hd : Lib.decDigits v.toNat with
      | nil => exact absurd hd (decDigits_ne _)
      | cons c r =>
        have hc := decDigits_dig v.toNat c (by rw [hd]; exact List.mem_cons_self)
        rw [hd] at e
        obtain ⟨h1, h2⟩ := byte0 e
        unfold uMin; rw [h2]
        have hc2 := (isDig_iff c).1 hc
        have : ((c.toNat : Int) == 45) = false := by rw [beq_eq_false_iff_ne]; omega
        rw [this, Bool.and_false]
    have hf : uFrom s = 0 := by unfold uFrom; rw [hu]; rfl
    have hd : uDo s = true := by
      unfold uDo; rw [hf, decide_eq_true (by omega)]
      have : (s.size == 0) = false := by rw [beq_eq_false_iff_ne]; omega
      rw [this]; rfl
    have hg : uGo (s.data.toList.drop 0) 0 = (true, (v.toNat : Int)) := by rw [List.drop_zero, e]; exact uGo_dec _
    have ho : uOk0 s = true := by unfold uOk0; rw [hd, hf, hg]; rfl
    have hvl : uVl s = (v.toNat : Int) := by unfold uVl; rw [hd, hf, hg]; rfl
    refine ⟨ho, ?_⟩
    rw [hu, hvl]; show ((v.toNat : Nat) : Int) = v; omega
theorem uFin_out {s : ByteArray} {A B : Int} (h : uFin s A B = true) : uSn s = uMin s ∧ Lib.itoa (sv (uSn s) (uVl s)) = s.data.toList ∧ A ≤ sv (uSn s) (uVl s) ∧ sv (uSn s) (uVl s) ≤ B := by
  unfold uFin at h
  simp only [Bool.and_eq_true, beq_iff_eq, decide_eq_true_eq] at h
  obtain ⟨h0, h1, h2, h3⟩ := h
  have hs : uSn s = uMin s := by unfold uSn; rw [h0]; rfl
  rw [ByteArray.toList_eq, ByteArray.toList_eq, tx_data] at h1
  rw [hs]
  exact ⟨rfl, h1, h2, h3⟩
theorem uFin_in {s : ByteArray} {A B v : Int} (hv : Lim v) (h : Lib.itoa v = s.data.toList) (h1 : A ≤ v) (h2 : v ≤ B) : uFin s A B = true := by
  obtain ⟨a, b⟩ := un_itoa hv h
  unfold uFin
  rw [a, b]
  have : ((tx v).toList == s.toList) = true := by rw [beq_iff_eq, ByteArray.toList_eq, ByteArray.toList_eq, tx_data, h]
  rw [this, decide_eq_true h1, decide_eq_true h2]; rfl
theorem bool_eq {a b : Bool} (h1 : a = true → b = true) (h2 : b = true → a = true) : a = b := by
  cases a <;> cases b
  · rfl
  · exact h2 rfl
  · exact (h1 rfl).symm
  · rfl
theorem itoa_inj {a b : Int} (ha : InR a) (hb : InR b) (h : Lib.itoa a = Lib.itoa b) : a = b := by
  have h1 := uw_itoa ha
  rw [h, uw_itoa hb] at h1
  exact (Option.some.inj h1).symm
theorem ud_fin (s : ByteArray) : udK s = uFin s (-9223372036854775808) 9223372036854775807 ∧ (udK s = true → sv (uSn s) (uVl s) = udV s) := by
  have key : ∀ v, udS s.data.toList = some v → udV s = v := fun v hv => by unfold udV; rw [hv]; rfl
  refine ⟨bool_eq (fun h => ?_) (fun h => ?_), fun h => ?_⟩
  · unfold udK at h
    obtain ⟨v, hv⟩ := Option.isSome_iff_exists.1 h
    obtain ⟨a, b, c⟩ := ud_some hv
    exact uFin_in (by unfold Lim; omega) a b c
  · obtain ⟨_, a, b, c⟩ := uFin_out h
    unfold udK; rw [← a, ud_itoa b c]; rfl
  · unfold udK at h
    obtain ⟨v, hv⟩ := Option.isSome_iff_exists.1 h
    obtain ⟨a, b, c⟩ := ud_some hv
    obtain ⟨d, e⟩ := un_itoa (v := v) (by unfold Lim; omega) a
    have hs : uSn s = uMin s := by unfold uSn; rw [d]; rfl
    rw [hs, e, key v hv]
theorem uu_fin (s : ByteArray) : uuK s = uFin s 0 18446744073709551615 ∧ (uuK s = true → sv (uSn s) (uVl s) = uuV s) := by
  have key : ∀ v, uuS s.data.toList = some v → uuV s = v := fun v hv => by unfold uuV; rw [hv]; rfl
  refine ⟨bool_eq (fun h => ?_) (fun h => ?_), fun h => ?_⟩
  · unfold uuK at h
    obtain ⟨v, hv⟩ := Option.isSome_iff_exists.1 h
    obtain ⟨a, b, c⟩ := uu_some hv
    exact uFin_in (by unfold Lim; omega) a b c
  · obtain ⟨_, a, b, c⟩ := uFin_out h
    unfold uuK; rw [← a, uu_itoa b c]; rfl
  · unfold uuK at h
    obtain ⟨v, hv⟩ := Option.isSome_iff_exists.1 h
    obtain ⟨a, b, c⟩ := uu_some hv
    obtain ⟨d, e⟩ := un_itoa (v := v) (by unfold Lim; omega) a
    have hs : uSn s = uMin s := by unfold uSn; rw [d]; rfl
    rw [hs, e, key v hv]
theorem uw_fin (s : ByteArray) : uwK s = uFin s (-170141183460469231731687303715884105728) 170141183460469231731687303715884105727 ∧ (uwK s = true → sv (uSn s) (uVl s) = uwV s) := by
  have key : ∀ v, uwS s.data.toList = some v → uwV s = v := fun v hv => by unfold uwV; rw [hv]; rfl
  refine ⟨bool_eq (fun h => ?_) (fun h => ?_), fun h => ?_⟩
  · unfold uwK at h
    obtain ⟨v, hv⟩ := Option.isSome_iff_exists.1 h
    obtain ⟨a, b⟩ := uw_some hv
    unfold InR at b
    exact uFin_in (by unfold Lim; omega) a (by omega) (by omega)
  · obtain ⟨_, a, b, c⟩ := uFin_out h
    unfold uwK; rw [← a, uw_itoa (by unfold InR; omega)]; rfl
  · unfold uwK at h
    obtain ⟨v, hv⟩ := Option.isSome_iff_exists.1 h
    obtain ⟨a, b⟩ := uw_some hv
    unfold InR at b
    obtain ⟨d, e⟩ := un_itoa (v := v) (by unfold Lim; omega) a
    have hs : uSn s = uMin s := by unfold uSn; rw [d]; rfl
    rw [hs, e, key v hv]
theorem uVl_bd (s : ByteArray) : 0 ≤ uVl s ∧ uVl s < T320 := by
  cases hd : uDo s
  · have : uVl s = 0 := by unfold uVl; rw [hd]; rfl
    rw [this]; unfold T320; omega
  · have hv : uVl s = (uGo (s.data.toList.drop (uFrom s)) 0).2 := by unfold uVl; rw [hd]; rfl
    unfold uDo at hd
    simp only [Bool.and_eq_true, Bool.not_eq_true', beq_eq_false_iff_ne, decide_eq_true_eq] at hd
    have h := uGo_bd (s.data.toList.drop (uFrom s)) 0 (by omega) (by
      rw [List.length_drop, size_dat, Int.zero_add, Int.one_mul]; exact pow_le (by omega))
    rw [← hv, ten60] at h
    unfold T320; omega
def unnS : Array Value → Option (Bool × Value)
  | ⟨[.string s, .agg ⟨.bool s1 :: r1⟩, .agg ⟨.bool s2 :: r2⟩]⟩ => some (okNum r1 && okNum r2, .tuple #[nv (uSn s) (uVl s), .bool (uFin s (sv s1 (mag r1)) (sv s2 (mag r2)))])
  | _ => none
def pcUnn : PC Tryd.prog where
  f := 14
  spec := unnS
  body := by kernel_rfl
  ok := fun args r hr hok => by
    unfold unnS at hr
    split at hr
    · rename_i s s1 r1 s2 r2
      cases hr
      rw [Bool.and_eq_true] at hok
      have b1 := mag_bd hok.1
      have b2 := mag_bd hok.2
      have e1 := nv_mag (s := s1) hok.1
      have e2 := nv_mag (s := s2) hok.2
      obtain ⟨l1, rfl, _, _, _⟩ := num_out hok.1
      obtain ⟨l2, rfl, _, _, _⟩ := num_out hok.2
      refine ⟨all_bel (by rw [belL, belL, bel_num, belL, bel_num]; rfl), by kernel_rfl, fun w => ?_⟩
      rw [e1, e2]
      exact un_any s s1 s2 b1.1 b1.2 b2.1 b2.2 w
    · cases hr
section

variable [Inhabited Root] [Inhabited Names]

def pmsN : List (PM Tryd.prog) := ((pcUnn :: pcsU).map PC.up).map PK.mem
end

variable [Inhabited Root]

def evW (hR : Rt) : Ev := ev (envS.mem false ((pkKnown hR).mem :: (memsT hR ++ pmsN))) 80
end

end Go.Proofs.YtfjfmcnnakfjnaaDoor


/-
  One way through a reading, told shortly: how many partings are settled by the reading alone, then which side is taken.
-/

namespace Go.Den

open Go.RowKit
noncomputable section
def Tree.way (t : Tree VR) : List (Nat × Bool) → Option (List Bool × Value) :=
  Tree.rec (motive := fun _ => List (Nat × Bool) → Option (List Bool × Value))
    (fun a l => List.casesOn (motive := fun _ => Option (List Bool × Value)) l (some ([], a.v)) fun _ _ => none)
    (fun b _ _ iht ihf l => List.casesOn (motive := fun _ => Option (List Bool × Value)) l
      (Bool.casesOn (motive := fun _ => Option (List Bool × Value)) b (ihf []) (iht []))
      (fun p r => Nat.casesOn (motive := fun _ => Option (List Bool × Value)) p.1
        (Option.rec (motive := fun _ => Option (List Bool × Value)) none (fun q => some (b :: q.1, q.2)) (Bool.casesOn (motive := fun _ => Option (List Bool × Value)) p.2 (ihf r) (iht r)))
        (fun n => Bool.casesOn (motive := fun _ => Option (List Bool × Value)) b (ihf ((n, p.2) :: r)) (iht ((n, p.2) :: r)))))
    (fun _ => none) t
theorem Tree.way_run {v : Value} : ∀ {t : Tree VR} {l : List (Nat × Bool)} {cs : List Bool}, t.way l = some (cs, v) → cs = l.map (·.2) → ∃ r, t.run = some r ∧ r.v = v := by
  intro t
  induction t with
  | leaf a =>
    intro l cs h _
    cases l with
    | nil => cases h; exact ⟨a, rfl, rfl⟩
    | cons _ _ => cases h
  | br b x y ihx ihy =>
    intro l cs h he
    cases l with
    | nil =>
      change Bool.casesOn (motive := fun _ => Option (List Bool × Value)) b (y.way []) (x.way []) = some (cs, v) at h
      cases b
      · exact ihy h he
      · exact ihx h he
    | cons p r =>
      obtain ⟨k, c⟩ := p
      cases k with
      | succ n =>
        change Bool.casesOn (motive := fun _ => Option (List Bool × Value)) b (y.way ((n, c) :: r)) (x.way ((n, c) :: r)) = some (cs, v) at h
        cases b
        · exact ihy h he
        · exact ihx h he
      | zero =>
        change Option.rec (motive := fun _ => Option (List Bool × Value)) none (fun p => some (b :: p.1, p.2)) (Bool.casesOn (motive := fun _ => Option (List Bool × Value)) c (y.way r) (x.way r)) = some (cs, v) at h
        cases c
        · cases hp : y.way r with
          | none => simp only [hp] at h; cases h
          | some p =>
            simp only [hp] at h
            cases h
            obtain ⟨h1, h2⟩ := List.cons.inj he
            subst h1
            exact ihy (by rw [hp]) h2
        · cases hp : x.way r with
          | none => simp only [hp] at h; cases h
          | some p =>
            simp only [hp] at h
            cases h
            obtain ⟨h1, h2⟩ := List.cons.inj he
            subst h1
            exact ihx (by rw [hp]) h2
  | fail => intro l cs h _; cases h
theorem Tree.way_holds {v : Value} {t : Tree VR} {l : List (Nat × Bool)} {cs : List Bool} (h : t.way l = some (cs, v)) (he : cs = l.map (·.2)) : t.holds fun r => r.v = v := by
  obtain ⟨r, h1, h2⟩ := Tree.way_run h he
  exact Tree.holds_in h1 h2
end

end Go.Den


/-
  The ways through TextNumbers and TextWides.
-/


namespace Go.Proofs.YtfjfmcnnakfjnaaDoor

open Go.Den Go.RowKit
noncomputable section
set_option maxRecDepth 100000

set_option linter.unusedSectionVars false

variable [Inhabited Root]

def nuK0 (s : ByteArray) : Bool := decide ((↑(ByteArray.size s) : Int) > 300)
def nuK1 (n : Int) : Bool := okNum (mapU (digsN 20 (sz n)))
def nuK2 (n : Int) : Bool := !ByteArray.toList (tx n) == ByteArray.toList (tx (sv (decide (n < 0)) (mag (mapU (digsN 20 (sz n))))))
def nuK3 (u : Int) : Bool := !ByteArray.toList (tx u) == ByteArray.toList (tx (sv false (mag (mapU (digsN 20 u)))))
def nuK4 (s : ByteArray) : Bool := uFin s (-9223372036854775808) 9223372036854775807
def nuK5 (s : ByteArray) : Bool := uFin s 0 18446744073709551615
def nuK6 (n : Int) : Bool := uFin (tx n) (-9223372036854775808) 9223372036854775807
def nuK7 (n : Int) : Bool := okNum (mapU (digsN 20 (sz (udV (tx n))))) && okNum (mapU (digsN 20 (uVl (tx n))))
def nuK8 (n : Int) : Bool := cmpI (sv (decide (udV (tx n) < 0)) (mag (mapU (digsN 20 (sz (udV (tx n))))))) (sv (uSn (tx n)) (mag (mapU (digsN 20 (uVl (tx n)))))) != 0
def nuK9 (n : Int) : Bool := uFin (tx n) 0 18446744073709551615
def nuK10 (u : Int) : Bool := uFin (tx u) (-9223372036854775808) 9223372036854775807
def nuK11 (u : Int) : Bool := uFin (tx u) 0 18446744073709551615
def nuK12 (u : Int) : Bool := okNum (mapU (digsN 20 (uuV (tx u)))) && okNum (mapU (digsN 20 (uVl (tx u))))
def nuK13 (u : Int) : Bool := cmpI (sv false (mag (mapU (digsN 20 (uuV (tx u)))))) (sv (uSn (tx u)) (mag (mapU (digsN 20 (uVl (tx u)))))) != 0
def nuK14 (u : Int) : Bool := okNum (mapU (digsN 20 (sz (udV (tx u))))) && okNum (mapU (digsN 20 (uVl (tx u))))
def nuK15 (u : Int) : Bool := cmpI (sv (decide (udV (tx u) < 0)) (mag (mapU (digsN 20 (sz (udV (tx u))))))) (sv (uSn (tx u)) (mag (mapU (digsN 20 (uVl (tx u)))))) != 0
def nuK16 (n : Int) : Bool := okNum (mapU (digsN 20 (uuV (tx n)))) && okNum (mapU (digsN 20 (uVl (tx n))))
def nuK17 (n : Int) : Bool := cmpI (sv false (mag (mapU (digsN 20 (uuV (tx n)))))) (sv (uSn (tx n)) (mag (mapU (digsN 20 (uVl (tx n)))))) != 0
def nuK18 (s : ByteArray) : Bool := okNum (mapU (digsN 20 (uuV s))) && okNum (mapU (digsN 20 (uVl s)))
def nuK19 (s : ByteArray) : Bool := cmpI (sv false (mag (mapU (digsN 20 (uuV s))))) (sv (uSn s) (mag (mapU (digsN 20 (uVl s))))) != 0
def nuK20 (s : ByteArray) : Bool := okNum (mapU (digsN 20 (sz (udV s)))) && okNum (mapU (digsN 20 (uVl s)))
def nuK21 (s : ByteArray) : Bool := cmpI (sv (decide (udV s < 0)) (mag (mapU (digsN 20 (sz (udV s)))))) (sv (uSn s) (mag (mapU (digsN 20 (uVl s))))) != 0
def nuK22 (wh : Int) (wl : Int) : Bool := okW wh wl && (decide (-170141183460469231731687303715884105729 < W2 wh wl) && decide (W2 wh wl < 170141183460469231731687303715884105729))
def nuK23 (wh : Int) (wl : Int) : Bool := okNum (mapU (digsN 20 (sz (W2 wh wl))))
def nuK24 (wh : Int) (wl : Int) : Bool := !ByteArray.toList (tx (W2 wh wl)) == ByteArray.toList (tx (sv (decide (W2 wh wl < 0)) (mag (mapU (digsN 20 (sz (W2 wh wl)))))))
def nuK25 (s : ByteArray) : Bool := uFin s (-170141183460469231731687303715884105728) 170141183460469231731687303715884105727
def nuK26 (s : ByteArray) : Bool := !(hi (uwV s) == 0 && (lo (uwV s) == 0 && true))
def nuK27 (wh : Int) (wl : Int) : Bool := uFin (tx (W2 wh wl)) (-170141183460469231731687303715884105728) 170141183460469231731687303715884105727
def nuK28 (wh : Int) (wl : Int) : Bool := okNum (mapU (digsN 20 (uVl (tx (W2 wh wl)))))
def nuK29 (wh : Int) (wl : Int) : Bool := !(hi (uwV (tx (W2 wh wl))) == hi (clamp (sv (uSn (tx (W2 wh wl))) (mag (mapU (digsN 20 (uVl (tx (W2 wh wl)))))))) && (lo (uwV (tx (W2 wh wl))) == lo (clamp (sv (uSn (tx (W2 wh wl))) (mag (mapU (digsN 20 (uVl (tx (W2 wh wl)))))))) && true))
def nuK30 (s : ByteArray) : Bool := okNum (mapU (digsN 20 (uVl s)))
def nuK31 (s : ByteArray) : Bool := !(hi (uwV s) == hi (clamp (sv (uSn s) (mag (mapU (digsN 20 (uVl s)))))) && (lo (uwV s) == lo (clamp (sv (uSn s) (mag (mapU (digsN 20 (uVl s)))))) && true))
def nuR0 (hR : Rt) (n u : Int) (s : ByteArray) : Tree VR := ((evW hR).call [] 3 #[.int .i64 n, .int .u64 u, .string s] [] B0)
def nuR1 (hR : Rt) (wh wl : Int) (s : ByteArray) : Tree VR := ((evW hR).call [] 4 #[.agg #[.int .i64 wh, .int .u64 wl], .string s] [] B0)
theorem nums_nnnn_way (hR : Rt) (n u : Int) (s : ByteArray) : (nuR0 hR n u s).way [(8, false), (2, true), (1, true), (0, true), (1, false), (5, true), (3, true), (1, true), (2, false), (5, true), (1, true), (13, false), (10, false), (55, false), (15, false), (10, false), (54, false), (23, true), (10, true), (27, true), (5, true), (3, false), (39, false), (10, false), (54, false), (23, false), (10, false), (55, false), (15, true), (10, true), (26, true), (5, true), (3, false)] = some ([nuK0 s, okI n, okI n, nuK1 n, nuK2 n, okU u, okU u, okNum (mapU (digsN 20 u)), nuK3 u, okI n, okU u, udK s, nuK4 s, udV s != 0, uuK s, nuK5 s, uuV s != 0, udK (tx n), nuK6 n, okI (udV (tx n)), nuK7 n, nuK8 n, uuK (tx n), nuK9 n, uuV (tx n) != 0, udK (tx u), nuK10 u, udV (tx u) != 0, uuK (tx u), nuK11 u, okU (uuV (tx u)), nuK12 u, nuK13 u], Value.bool true) := by kernel_rfl
theorem nums_nnny_way (hR : Rt) (n u : Int) (s : ByteArray) : (nuR0 hR n u s).way [(8, false), (2, true), (1, true), (0, true), (1, false), (5, true), (3, true), (1, true), (2, false), (5, true), (1, true), (13, false), (10, false), (55, false), (15, false), (10, false), (54, false), (23, true), (10, true), (27, true), (5, true), (3, false), (39, false), (10, false), (54, false), (23, true), (10, true), (27, true), (5, true), (3, false), (39, true), (10, true), (26, true), (5, true), (3, false)] = some ([nuK0 s, okI n, okI n, nuK1 n, nuK2 n, okU u, okU u, okNum (mapU (digsN 20 u)), nuK3 u, okI n, okU u, udK s, nuK4 s, udV s != 0, uuK s, nuK5 s, uuV s != 0, udK (tx n), nuK6 n, okI (udV (tx n)), nuK7 n, nuK8 n, uuK (tx n), nuK9 n, uuV (tx n) != 0, udK (tx u), nuK10 u, okI (udV (tx u)), nuK14 u, nuK15 u, uuK (tx u), nuK11 u, okU (uuV (tx u)), nuK12 u, nuK13 u], Value.bool true) := by kernel_rfl
theorem nums_nnyn_way (hR : Rt) (n u : Int) (s : ByteArray) : (nuR0 hR n u s).way [(8, false), (2, true), (1, true), (0, true), (1, false), (5, true), (3, true), (1, true), (2, false), (5, true), (1, true), (13, false), (10, false), (55, false), (15, false), (10, false), (54, false), (23, true), (10, true), (27, true), (5, true), (3, false), (39, true), (10, true), (26, true), (5, true), (3, false), (47, false), (10, false), (55, false), (15, true), (10, true), (26, true), (5, true), (3, false)] = some ([nuK0 s, okI n, okI n, nuK1 n, nuK2 n, okU u, okU u, okNum (mapU (digsN 20 u)), nuK3 u, okI n, okU u, udK s, nuK4 s, udV s != 0, uuK s, nuK5 s, uuV s != 0, udK (tx n), nuK6 n, okI (udV (tx n)), nuK7 n, nuK8 n, uuK (tx n), nuK9 n, okU (uuV (tx n)), nuK16 n, nuK17 n, udK (tx u), nuK10 u, udV (tx u) != 0, uuK (tx u), nuK11 u, okU (uuV (tx u)), nuK12 u, nuK13 u], Value.bool true) := by kernel_rfl
theorem nums_nnyy_way (hR : Rt) (n u : Int) (s : ByteArray) : (nuR0 hR n u s).way [(8, false), (2, true), (1, true), (0, true), (1, false), (5, true), (3, true), (1, true), (2, false), (5, true), (1, true), (13, false), (10, false), (55, false), (15, false), (10, false), (54, false), (23, true), (10, true), (27, true), (5, true), (3, false), (39, true), (10, true), (26, true), (5, true), (3, false), (47, true), (10, true), (27, true), (5, true), (3, false), (39, true), (10, true), (26, true), (5, true), (3, false)] = some ([nuK0 s, okI n, okI n, nuK1 n, nuK2 n, okU u, okU u, okNum (mapU (digsN 20 u)), nuK3 u, okI n, okU u, udK s, nuK4 s, udV s != 0, uuK s, nuK5 s, uuV s != 0, udK (tx n), nuK6 n, okI (udV (tx n)), nuK7 n, nuK8 n, uuK (tx n), nuK9 n, okU (uuV (tx n)), nuK16 n, nuK17 n, udK (tx u), nuK10 u, okI (udV (tx u)), nuK14 u, nuK15 u, uuK (tx u), nuK11 u, okU (uuV (tx u)), nuK12 u, nuK13 u], Value.bool true) := by kernel_rfl
theorem nums_nynn_way (hR : Rt) (n u : Int) (s : ByteArray) : (nuR0 hR n u s).way [(8, false), (2, true), (1, true), (0, true), (1, false), (5, true), (3, true), (1, true), (2, false), (5, true), (1, true), (13, false), (10, false), (55, false), (15, true), (10, true), (26, true), (5, true), (3, false), (47, true), (10, true), (27, true), (5, true), (3, false), (39, false), (10, false), (54, false), (23, false), (10, false), (55, false), (15, true), (10, true), (26, true), (5, true), (3, false)] = some ([nuK0 s, okI n, okI n, nuK1 n, nuK2 n, okU u, okU u, okNum (mapU (digsN 20 u)), nuK3 u, okI n, okU u, udK s, nuK4 s, udV s != 0, uuK s, nuK5 s, okU (uuV s), nuK18 s, nuK19 s, udK (tx n), nuK6 n, okI (udV (tx n)), nuK7 n, nuK8 n, uuK (tx n), nuK9 n, uuV (tx n) != 0, udK (tx u), nuK10 u, udV (tx u) != 0, uuK (tx u), nuK11 u, okU (uuV (tx u)), nuK12 u, nuK13 u], Value.bool true) := by kernel_rfl
theorem nums_nyny_way (hR : Rt) (n u : Int) (s : ByteArray) : (nuR0 hR n u s).way [(8, false), (2, true), (1, true), (0, true), (1, false), (5, true), (3, true), (1, true), (2, false), (5, true), (1, true), (13, false), (10, false), (55, false), (15, true), (10, true), (26, true), (5, true), (3, false), (47, true), (10, true), (27, true), (5, true), (3, false), (39, false), (10, false), (54, false), (23, true), (10, true), (27, true), (5, true), (3, false), (39, true), (10, true), (26, true), (5, true), (3, false)] = some ([nuK0 s, okI n, okI n, nuK1 n, nuK2 n, okU u, okU u, okNum (mapU (digsN 20 u)), nuK3 u, okI n, okU u, udK s, nuK4 s, udV s != 0, uuK s, nuK5 s, okU (uuV s), nuK18 s, nuK19 s, udK (tx n), nuK6 n, okI (udV (tx n)), nuK7 n, nuK8 n, uuK (tx n), nuK9 n, uuV (tx n) != 0, udK (tx u), nuK10 u, okI (udV (tx u)), nuK14 u, nuK15 u, uuK (tx u), nuK11 u, okU (uuV (tx u)), nuK12 u, nuK13 u], Value.bool true) := by kernel_rfl
theorem nums_nyyn_way (hR : Rt) (n u : Int) (s : ByteArray) : (nuR0 hR n u s).way [(8, false), (2, true), (1, true), (0, true), (1, false), (5, true), (3, true), (1, true), (2, false), (5, true), (1, true), (13, false), (10, false), (55, false), (15, true), (10, true), (26, true), (5, true), (3, false), (47, true), (10, true), (27, true), (5, true), (3, false), (39, true), (10, true), (26, true), (5, true), (3, false), (47, false), (10, false), (55, false), (15, true), (10, true), (26, true), (5, true), (3, false)] = some ([nuK0 s, okI n, okI n, nuK1 n, nuK2 n, okU u, okU u, okNum (mapU (digsN 20 u)), nuK3 u, okI n, okU u, udK s, nuK4 s, udV s != 0, uuK s, nuK5 s, okU (uuV s), nuK18 s, nuK19 s, udK (tx n), nuK6 n, okI (udV (tx n)), nuK7 n, nuK8 n, uuK (tx n), nuK9 n, okU (uuV (tx n)), nuK16 n, nuK17 n, udK (tx u), nuK10 u, udV (tx u) != 0, uuK (tx u), nuK11 u, okU (uuV (tx u)), nuK12 u, nuK13 u], Value.bool true) := by kernel_rfl
theorem nums_nyyy_way (hR : Rt) (n u : Int) (s : ByteArray) : (nuR0 hR n u s).way [(8, false), (2, true), (1, true), (0, true), (1, false), (5, true), (3, true), (1, true), (2, false), (5, true), (1, true), (13, false), (10, false), (55, false), (15, true), (10, true), (26, true), (5, true), (3, false), (47, true), (10, true), (27, true), (5, true), (3, false), (39, true), (10, true), (26, true), (5, true), (3, false), (47, true), (10, true), (27, true), (5, true), (3, false), (39, true), (10, true), (26, true), (5, true), (3, false)] = some ([nuK0 s, okI n, okI n, nuK1 n, nuK2 n, okU u, okU u, okNum (mapU (digsN 20 u)), nuK3 u, okI n, okU u, udK s, nuK4 s, udV s != 0, uuK s, nuK5 s, okU (uuV s), nuK18 s, nuK19 s, udK (tx n), nuK6 n, okI (udV (tx n)), nuK7 n, nuK8 n, uuK (tx n), nuK9 n, okU (uuV (tx n)), nuK16 n, nuK17 n, udK (tx u), nuK10 u, okI (udV (tx u)), nuK14 u, nuK15 u, uuK (tx u), nuK11 u, okU (uuV (tx u)), nuK12 u, nuK13 u], Value.bool true) := by kernel_rfl
theorem nums_ynnn_way (hR : Rt) (n u : Int) (s : ByteArray) : (nuR0 hR n u s).way [(8, false), (2, true), (1, true), (0, true), (1, false), (5, true), (3, true), (1, true), (2, false), (5, true), (1, true), (13, true), (10, true), (27, true), (5, true), (3, false), (39, false), (10, false), (54, false), (23, true), (10, true), (27, true), (5, true), (3, false), (39, false), (10, false), (54, false), (23, false), (10, false), (55, false), (15, true), (10, true), (26, true), (5, true), (3, false)] = some ([nuK0 s, okI n, okI n, nuK1 n, nuK2 n, okU u, okU u, okNum (mapU (digsN 20 u)), nuK3 u, okI n, okU u, udK s, nuK4 s, okI (udV s), nuK20 s, nuK21 s, uuK s, nuK5 s, uuV s != 0, udK (tx n), nuK6 n, okI (udV (tx n)), nuK7 n, nuK8 n, uuK (tx n), nuK9 n, uuV (tx n) != 0, udK (tx u), nuK10 u, udV (tx u) != 0, uuK (tx u), nuK11 u, okU (uuV (tx u)), nuK12 u, nuK13 u], Value.bool true) := by kernel_rfl
theorem nums_ynny_way (hR : Rt) (n u : Int) (s : ByteArray) : (nuR0 hR n u s).way [(8, false), (2, true), (1, true), (0, true), (1, false), (5, true), (3, true), (1, true), (2, false), (5, true), (1, true), (13, true), (10, true), (27, true), (5, true), (3, false), (39, false), (10, false), (54, false), (23, true), (10, true), (27, true), (5, true), (3, false), (39, false), (10, false), (54, false), (23, true), (10, true), (27, true), (5, true), (3, false), (39, true), (10, true), (26, true), (5, true), (3, false)] = some ([nuK0 s, okI n, okI n, nuK1 n, nuK2 n, okU u, okU u, okNum (mapU (digsN 20 u)), nuK3 u, okI n, okU u, udK s, nuK4 s, okI (udV s), nuK20 s, nuK21 s, uuK s, nuK5 s, uuV s != 0, udK (tx n), nuK6 n, okI (udV (tx n)), nuK7 n, nuK8 n, uuK (tx n), nuK9 n, uuV (tx n) != 0, udK (tx u), nuK10 u, okI (udV (tx u)), nuK14 u, nuK15 u, uuK (tx u), nuK11 u, okU (uuV (tx u)), nuK12 u, nuK13 u], Value.bool true) := by kernel_rfl
theorem nums_ynyn_way (hR : Rt) (n u : Int) (s : ByteArray) : (nuR0 hR n u s).way [(8, false), (2, true), (1, true), (0, true), (1, false), (5, true), (3, true), (1, true), (2, false), (5, true), (1, true), (13, true), (10, true), (27, true), (5, true), (3, false), (39, false), (10, false), (54, false), (23, true), (10, true), (27, true), (5, true), (3, false), (39, true), (10, true), (26, true), (5, true), (3, false), (47, false), (10, false), (55, false), (15, true), (10, true), (26, true), (5, true), (3, false)] = some ([nuK0 s, okI n, okI n, nuK1 n, nuK2 n, okU u, okU u, okNum (mapU (digsN 20 u)), nuK3 u, okI n, okU u, udK s, nuK4 s, okI (udV s), nuK20 s, nuK21 s, uuK s, nuK5 s, uuV s != 0, udK (tx n), nuK6 n, okI (udV (tx n)), nuK7 n, nuK8 n, uuK (tx n), nuK9 n, okU (uuV (tx n)), nuK16 n, nuK17 n, udK (tx u), nuK10 u, udV (tx u) != 0, uuK (tx u), nuK11 u, okU (uuV (tx u)), nuK12 u, nuK13 u], Value.bool true) := by kernel_rfl
theorem nums_ynyy_way (hR : Rt) (n u : Int) (s : ByteArray) : (nuR0 hR n u s).way [(8, false), (2, true), (1, true), (0, true), (1, false), (5, true), (3, true), (1, true), (2, false), (5, true), (1, true), (13, true), (10, true), (27, true), (5, true), (3, false), (39, false), (10, false), (54, false), (23, true), (10, true), (27, true), (5, true), (3, false), (39, true), (10, true), (26, true), (5, true), (3, false), (47, true), (10, true), (27, true), (5, true), (3, false), (39, true), (10, true), (26, true), (5, true), (3, false)] = some ([nuK0 s, okI n, okI n, nuK1 n, nuK2 n, okU u, okU u, okNum (mapU (digsN 20 u)), nuK3 u, okI n, okU u, udK s, nuK4 s, okI (udV s), nuK20 s, nuK21 s, uuK s, nuK5 s, uuV s != 0, udK (tx n), nuK6 n, okI (udV (tx n)), nuK7 n, nuK8 n, uuK (tx n), nuK9 n, okU (uuV (tx n)), nuK16 n, nuK17 n, udK (tx u), nuK10 u, okI (udV (tx u)), nuK14 u, nuK15 u, uuK (tx u), nuK11 u, okU (uuV (tx u)), nuK12 u, nuK13 u], Value.bool true) := by kernel_rfl
theorem nums_yynn_way (hR : Rt) (n u : Int) (s : ByteArray) : (nuR0 hR n u s).way [(8, false), (2, true), (1, true), (0, true), (1, false), (5, true), (3, true), (1, true), (2, false), (5, true), (1, true), (13, true), (10, true), (27, true), (5, true), (3, false), (39, true), (10, true), (26, true), (5, true), (3, false), (47, true), (10, true), (27, true), (5, true), (3, false), (39, false), (10, false), (54, false), (23, false), (10, false), (55, false), (15, true), (10, true), (26, true), (5, true), (3, false)] = some ([nuK0 s, okI n, okI n, nuK1 n, nuK2 n, okU u, okU u, okNum (mapU (digsN 20 u)), nuK3 u, okI n, okU u, udK s, nuK4 s, okI (udV s), nuK20 s, nuK21 s, uuK s, nuK5 s, okU (uuV s), nuK18 s, nuK19 s, udK (tx n), nuK6 n, okI (udV (tx n)), nuK7 n, nuK8 n, uuK (tx n), nuK9 n, uuV (tx n) != 0, udK (tx u), nuK10 u, udV (tx u) != 0, uuK (tx u), nuK11 u, okU (uuV (tx u)), nuK12 u, nuK13 u], Value.bool true) := by kernel_rfl
theorem nums_yyny_way (hR : Rt) (n u : Int) (s : ByteArray) : (nuR0 hR n u s).way [(8, false), (2, true), (1, true), (0, true), (1, false), (5, true), (3, true), (1, true), (2, false), (5, true), (1, true), (13, true), (10, true), (27, true), (5, true), (3, false), (39, true), (10, true), (26, true), (5, true), (3, false), (47, true), (10, true), (27, true), (5, true), (3, false), (39, false), (10, false), (54, false), (23, true), (10, true), (27, true), (5, true), (3, false), (39, true), (10, true), (26, true), (5, true), (3, false)] = some ([nuK0 s, okI n, okI n, nuK1 n, nuK2 n, okU u, okU u, okNum (mapU (digsN 20 u)), nuK3 u, okI n, okU u, udK s, nuK4 s, okI (udV s), nuK20 s, nuK21 s, uuK s, nuK5 s, okU (uuV s), nuK18 s, nuK19 s, udK (tx n), nuK6 n, okI (udV (tx n)), nuK7 n, nuK8 n, uuK (tx n), nuK9 n, uuV (tx n) != 0, udK (tx u), nuK10 u, okI (udV (tx u)), nuK14 u, nuK15 u, uuK (tx u), nuK11 u, okU (uuV (tx u)), nuK12 u, nuK13 u], Value.bool true) := by kernel_rfl
theorem nums_yyyn_way (hR : Rt) (n u : Int) (s : ByteArray) : (nuR0 hR n u s).way [(8, false), (2, true), (1, true), (0, true), (1, false), (5, true), (3, true), (1, true), (2, false), (5, true), (1, true), (13, true), (10, true), (27, true), (5, true), (3, false), (39, true), (10, true), (26, true), (5, true), (3, false), (47, true), (10, true), (27, true), (5, true), (3, false), (39, true), (10, true), (26, true), (5, true), (3, false), (47, false), (10, false), (55, false), (15, true), (10, true), (26, true), (5, true), (3, false)] = some ([nuK0 s, okI n, okI n, nuK1 n, nuK2 n, okU u, okU u, okNum (mapU (digsN 20 u)), nuK3 u, okI n, okU u, udK s, nuK4 s, okI (udV s), nuK20 s, nuK21 s, uuK s, nuK5 s, okU (uuV s), nuK18 s, nuK19 s, udK (tx n), nuK6 n, okI (udV (tx n)), nuK7 n, nuK8 n, uuK (tx n), nuK9 n, okU (uuV (tx n)), nuK16 n, nuK17 n, udK (tx u), nuK10 u, udV (tx u) != 0, uuK (tx u), nuK11 u, okU (uuV (tx u)), nuK12 u, nuK13 u], Value.bool true) := by kernel_rfl
theorem nums_yyyy_way (hR : Rt) (n u : Int) (s : ByteArray) : (nuR0 hR n u s).way [(8, false), (2, true), (1, true), (0, true), (1, false), (5, true), (3, true), (1, true), (2, false), (5, true), (1, true), (13, true), (10, true), (27, true), (5, true), (3, false), (39, true), (10, true), (26, true), (5, true), (3, false), (47, true), (10, true), (27, true), (5, true), (3, false), (39, true), (10, true), (26, true), (5, true), (3, false), (47, true), (10, true), (27, true), (5, true), (3, false), (39, true), (10, true), (26, true), (5, true), (3, false)] = some ([nuK0 s, okI n, okI n, nuK1 n, nuK2 n, okU u, okU u, okNum (mapU (digsN 20 u)), nuK3 u, okI n, okU u, udK s, nuK4 s, okI (udV s), nuK20 s, nuK21 s, uuK s, nuK5 s, okU (uuV s), nuK18 s, nuK19 s, udK (tx n), nuK6 n, okI (udV (tx n)), nuK7 n, nuK8 n, uuK (tx n), nuK9 n, okU (uuV (tx n)), nuK16 n, nuK17 n, udK (tx u), nuK10 u, okI (udV (tx u)), nuK14 u, nuK15 u, uuK (tx u), nuK11 u, okU (uuV (tx u)), nuK12 u, nuK13 u], Value.bool true) := by kernel_rfl
theorem nums_l_way (hR : Rt) (n u : Int) (s : ByteArray) : (nuR0 hR n u s).way [(8, true)] = some ([nuK0 s], Value.bool true) := by kernel_rfl
theorem wides_n_way (hR : Rt) (wh wl : Int) (s : ByteArray) : (nuR1 hR wh wl s).way [(9, false), (3, true), (3, true), (1, true), (2, false), (16, true), (13, false), (10, false), (57, false), (23, true), (10, true), (30, true), (3, false)] = some ([nuK0 s, nuK22 wh wl, okW wh wl, nuK23 wh wl, nuK24 wh wl, nuK22 wh wl, uwK s, nuK25 s, nuK26 s, uwK (tx (W2 wh wl)), nuK27 wh wl, nuK28 wh wl, nuK29 wh wl], Value.bool true) := by kernel_rfl
theorem wides_y_way (hR : Rt) (wh wl : Int) (s : ByteArray) : (nuR1 hR wh wl s).way [(9, false), (3, true), (3, true), (1, true), (2, false), (16, true), (13, true), (10, true), (30, true), (3, false), (48, true), (10, true), (30, true), (3, false)] = some ([nuK0 s, nuK22 wh wl, okW wh wl, nuK23 wh wl, nuK24 wh wl, nuK22 wh wl, uwK s, nuK25 s, nuK30 s, nuK31 s, uwK (tx (W2 wh wl)), nuK27 wh wl, nuK28 wh wl, nuK29 wh wl], Value.bool true) := by kernel_rfl
theorem wides_l_way (hR : Rt) (wh wl : Int) (s : ByteArray) : (nuR1 hR wh wl s).way [(9, true)] = some ([nuK0 s], Value.bool true) := by kernel_rfl
end

end Go.Proofs.YtfjfmcnnakfjnaaDoor


/-
  TextNumbers and TextWides are read to true.
-/


namespace Go.Proofs.YtfjfmcnnakfjnaaDoor

open Go.Den Go.RowKit
noncomputable section
set_option maxRecDepth 100000

set_option linter.unusedSectionVars false

variable [Inhabited Root]

theorem tx_same {n : Int} (h0 : -680564733841876926926749214863536422912 ≤ n) (h1 : n ≤ 680564733841876926926749214863536422912) : (!(tx n).toList == (tx (sv (decide (n < 0)) (mag (mapU (digsN 20 (sz n)))))).toList) = false := by
  rw [mag_sz h0 h1, sv_sz]; exact not_beq _
theorem tx_same_u {u : Int} (h0 : 0 ≤ u) (h1 : u ≤ 18446744073709551615) : (!(tx u).toList == (tx (sv false (mag (mapU (digsN 20 u))))).toList) = false := by
  rw [mag_nv h0 (by unfold T320; omega), sv_f]; exact not_beq _
theorem udV_no {s : ByteArray} (h : udK s = false) : udV s = 0 := by
  unfold udK at h; unfold udV
  cases e : udS s.data.toList with
  | none => rfl
  | some v => rw [e] at h; cases h
theorem uuV_no {s : ByteArray} (h : uuK s = false) : uuV s = 0 := by
  unfold uuK at h; unfold uuV
  cases e : uuS s.data.toList with
  | none => rfl
  | some v => rw [e] at h; cases h
theorem uwV_no {s : ByteArray} (h : uwK s = false) : uwV s = 0 := by
  unfold uwK at h; unfold uwV
  cases e : uwS s.data.toList with
  | none => rfl
  | some v => rw [e] at h; cases h
theorem mag_uVl (s : ByteArray) : mag (mapU (digsN 20 (uVl s))) = uVl s := mag_nv (uVl_bd s).1 (uVl_bd s).2
theorem cmp_ud {s : ByteArray} (h : udK s = true) : (cmpI (sv (decide (udV s < 0)) (mag (mapU (digsN 20 (sz (udV s)))))) (sv (uSn s) (mag (mapU (digsN 20 (uVl s))))) != 0) = false := by
  have hb := okI_iff.1 (udV_ok h).1
  rw [mag_uVl, mag_sz (by omega) (by omega), sv_sz, (ud_fin s).2 h, cmpI_self]; rfl
theorem cmp_uu {s : ByteArray} (h : uuK s = true) : (cmpI (sv false (mag (mapU (digsN 20 (uuV s))))) (sv (uSn s) (mag (mapU (digsN 20 (uVl s))))) != 0) = false := by
  have hb := okU_iff.1 (uuV_ok h).1
  rw [mag_uVl, mag_nv hb.1 (by unfold T320; omega), sv_f, (uu_fin s).2 h, cmpI_self]; rfl
theorem wide_same {s : ByteArray} (h : uwK s = true) : (!(hi (uwV s) == hi (clamp (sv (uSn s) (mag (mapU (digsN 20 (uVl s)))))) && (lo (uwV s) == lo (clamp (sv (uSn s) (mag (mapU (digsN 20 (uVl s)))))) && true))) = false := by
  rw [mag_uVl, (uw_fin s).2 h, clamp_of (uwV_in s), beq_self_eq_true, beq_self_eq_true]; rfl
set_option maxHeartbeats 8000000 in
theorem nums_true (hR : Rt) (n u : Int) (hn0 : -9223372036854775808 ≤ n) (hn1 : n ≤ 9223372036854775807) (hu0 : 0 ≤ u) (hu1 : u ≤ 18446744073709551615) (s : ByteArray) :
    ((evW hR).call [] 3 #[.int .i64 n, .int .u64 u, .string s] [] B0).holds fun r => r.v = .bool true := by
  rcases Nat.lt_or_ge 300 s.size with hs | hs
  · exact Tree.way_holds (nums_l_way hR n u s) (by unfold nuK0; rw [decide_eq_true (by omega)]; rfl)
  have h3 : udK (tx n) = true := udK_tx hn0 hn1
  have h6 : uuK (tx u) = true := uuK_tx hu0 hu1
  have c0 : (nuK0 s) = false := by unfold nuK0; rw [decide_eq_false_iff_not]; omega
  have c1 : (okI n) = true := okI_iff.2 ⟨hn0, hn1⟩
  have c2 : (nuK1 n) = true := by unfold nuK1; exact ok_nv _
  have c3 : (nuK2 n) = false := by unfold nuK2; exact tx_same (by omega) (by omega)
  have c4 : (okU u) = true := okU_iff.2 ⟨hu0, hu1⟩
  have c5 : (okNum (mapU (digsN 20 u))) = true := ok_nv _
  have c6 : (nuK3 u) = false := by unfold nuK3; exact tx_same_u hu0 hu1
  have c7 : (udK (tx n)) = true := h3
  have c8 : (nuK6 n) = true := by unfold nuK6; rw [← (ud_fin (tx n)).1]; exact h3
  have c9 : (okI (udV (tx n))) = true := (udV_ok h3).1
  have c10 : (nuK7 n) = true := by unfold nuK7; rw [ok_nv, ok_nv]; rfl
  have c11 : (nuK8 n) = false := by unfold nuK8; exact cmp_ud h3
  have c12 : (uuK (tx u)) = true := h6
  have c13 : (nuK11 u) = true := by unfold nuK11; rw [← (uu_fin (tx u)).1]; exact h6
  have c14 : (okU (uuV (tx u))) = true := (uuV_ok h6).1
  have c15 : (nuK12 u) = true := by unfold nuK12; rw [ok_nv, ok_nv]; rfl
  have c16 : (nuK13 u) = false := by unfold nuK13; exact cmp_uu h6
  cases h1 : udK s <;> cases h2 : uuK s <;> cases h4 : uuK (tx n) <;> cases h5 : udK (tx u)
  · skip
    have c17 : (udK s) = false := h1
    have c18 : (nuK4 s) = false := by unfold nuK4; rw [← (ud_fin s).1]; exact h1
    have c19 : (udV s != 0) = false := by rw [udV_no h1]; rfl
    have c20 : (uuK s) = false := h2
    have c21 : (nuK5 s) = false := by unfold nuK5; rw [← (uu_fin s).1]; exact h2
    have c22 : (uuV s != 0) = false := by rw [uuV_no h2]; rfl
    have c23 : (uuK (tx n)) = false := h4
    have c24 : (nuK9 n) = false := by unfold nuK9; rw [← (uu_fin (tx n)).1]; exact h4
    have c25 : (uuV (tx n) != 0) = false := by rw [uuV_no h4]; rfl
    have c26 : (udK (tx u)) = false := h5
    have c27 : (nuK10 u) = false := by unfold nuK10; rw [← (ud_fin (tx u)).1]; exact h5
    have c28 : (udV (tx u) != 0) = false := by rw [udV_no h5]; rfl
    exact Tree.way_holds (nums_nnnn_way hR n u s) (by rw [c0, c1, c2, c3, c4, c5, c6, c17, c18, c19, c20, c21, c22, c7, c8, c9, c10, c11, c23, c24, c25, c26, c27, c28, c12, c13, c14, c15, c16]; rfl)
  · skip
    have c17 : (udK s) = false := h1
    have c18 : (nuK4 s) = false := by unfold nuK4; rw [← (ud_fin s).1]; exact h1
    have c19 : (udV s != 0) = false := by rw [udV_no h1]; rfl
    have c20 : (uuK s) = false := h2
    have c21 : (nuK5 s) = false := by unfold nuK5; rw [← (uu_fin s).1]; exact h2
    have c22 : (uuV s != 0) = false := by rw [uuV_no h2]; rfl
    have c23 : (uuK (tx n)) = false := h4
    have c24 : (nuK9 n) = false := by unfold nuK9; rw [← (uu_fin (tx n)).1]; exact h4
    have c25 : (uuV (tx n) != 0) = false := by rw [uuV_no h4]; rfl
    have c29 : (udK (tx u)) = true := h5
    have c30 : (nuK10 u) = true := by unfold nuK10; rw [← (ud_fin (tx u)).1]; exact h5
    have c31 : (okI (udV (tx u))) = true := (udV_ok h5).1
    have c32 : (nuK14 u) = true := by unfold nuK14; rw [ok_nv, ok_nv]; rfl
    have c33 : (nuK15 u) = false := by unfold nuK15; exact cmp_ud h5
    exact Tree.way_holds (nums_nnny_way hR n u s) (by rw [c0, c1, c2, c3, c4, c5, c6, c17, c18, c19, c20, c21, c22, c7, c8, c9, c10, c11, c23, c24, c25, c29, c30, c31, c32, c33, c12, c13, c14, c15, c16]; rfl)
  · skip
    have c17 : (udK s) = false := h1
    have c18 : (nuK4 s) = false := by unfold nuK4; rw [← (ud_fin s).1]; exact h1
    have c19 : (udV s != 0) = false := by rw [udV_no h1]; rfl
    have c20 : (uuK s) = false := h2
    have c21 : (nuK5 s) = false := by unfold nuK5; rw [← (uu_fin s).1]; exact h2
    have c22 : (uuV s != 0) = false := by rw [uuV_no h2]; rfl
    have c34 : (uuK (tx n)) = true := h4
    have c35 : (nuK9 n) = true := by unfold nuK9; rw [← (uu_fin (tx n)).1]; exact h4
    have c36 : (okU (uuV (tx n))) = true := (uuV_ok h4).1
    have c37 : (nuK16 n) = true := by unfold nuK16; rw [ok_nv, ok_nv]; rfl
    have c38 : (nuK17 n) = false := by unfold nuK17; exact cmp_uu h4
    have c26 : (udK (tx u)) = false := h5
    have c27 : (nuK10 u) = false := by unfold nuK10; rw [← (ud_fin (tx u)).1]; exact h5
    have c28 : (udV (tx u) != 0) = false := by rw [udV_no h5]; rfl
    exact Tree.way_holds (nums_nnyn_way hR n u s) (by rw [c0, c1, c2, c3, c4, c5, c6, c17, c18, c19, c20, c21, c22, c7, c8, c9, c10, c11, c34, c35, c36, c37, c38, c26, c27, c28, c12, c13, c14, c15, c16]; rfl)
  · skip
    have c17 : (udK s) = false := h1
    have c18 : (nuK4 s) = false := by unfold nuK4; rw [← (ud_fin s).1]; exact h1
    have c19 : (udV s != 0) = false := by rw [udV_no h1]; rfl
    have c20 : (uuK s) = false := h2
    have c21 : (nuK5 s) = false := by unfold nuK5; rw [← (uu_fin s).1]; exact h2
    have c22 : (uuV s != 0) = false := by rw [uuV_no h2]; rfl
    have c34 : (uuK (tx n)) = true := h4
    have c35 : (nuK9 n) = true := by unfold nuK9; rw [← (uu_fin (tx n)).1]; exact h4
    have c36 : (okU (uuV (tx n))) = true := (uuV_ok h4).1
    have c37 : (nuK16 n) = true := by unfold nuK16; rw [ok_nv, ok_nv]; rfl
    have c38 : (nuK17 n) = false := by unfold nuK17; exact cmp_uu h4
    have c29 : (udK (tx u)) = true := h5
    have c30 : (nuK10 u) = true := by unfold nuK10; rw [← (ud_fin (tx u)).1]; exact h5
    have c31 : (okI (udV (tx u))) = true := (udV_ok h5).1
    have c32 : (nuK14 u) = true := by unfold nuK14; rw [ok_nv, ok_nv]; rfl
    have c33 : (nuK15 u) = false := by unfold nuK15; exact cmp_ud h5
    exact Tree.way_holds (nums_nnyy_way hR n u s) (by rw [c0, c1, c2, c3, c4, c5, c6, c17, c18, c19, c20, c21, c22, c7, c8, c9, c10, c11, c34, c35, c36, c37, c38, c29, c30, c31, c32, c33, c12, c13, c14, c15, c16]; rfl)
  · skip
    have c17 : (udK s) = false := h1
    have c18 : (nuK4 s) = false := by unfold nuK4; rw [← (ud_fin s).1]; exact h1
    have c19 : (udV s != 0) = false := by rw [udV_no h1]; rfl
    have c39 : (uuK s) = true := h2
    have c40 : (nuK5 s) = true := by unfold nuK5; rw [← (uu_fin s).1]; exact h2
    have c41 : (okU (uuV s)) = true := (uuV_ok h2).1
    have c42 : (nuK18 s) = true := by unfold nuK18; rw [ok_nv, ok_nv]; rfl
    have c43 : (nuK19 s) = false := by unfold nuK19; exact cmp_uu h2
    have c23 : (uuK (tx n)) = false := h4
    have c24 : (nuK9 n) = false := by unfold nuK9; rw [← (uu_fin (tx n)).1]; exact h4
    have c25 : (uuV (tx n) != 0) = false := by rw [uuV_no h4]; rfl
    have c26 : (udK (tx u)) = false := h5
    have c27 : (nuK10 u) = false := by unfold nuK10; rw [← (ud_fin (tx u)).1]; exact h5
    have c28 : (udV (tx u) != 0) = false := by rw [udV_no h5]; rfl
    exact Tree.way_holds (nums_nynn_way hR n u s) (by rw [c0, c1, c2, c3, c4, c5, c6, c17, c18, c19, c39, c40, c41, c42, c43, c7, c8, c9, c10, c11, c23, c24, c25, c26, c27, c28, c12, c13, c14, c15, c16]; rfl)
  · skip
    have c17 : (udK s) = false := h1
    have c18 : (nuK4 s) = false := by unfold nuK4; rw [← (ud_fin s).1]; exact h1
    have c19 : (udV s != 0) = false := by rw [udV_no h1]; rfl
    have c39 : (uuK s) = true := h2
    have c40 : (nuK5 s) = true := by unfold nuK5; rw [← (uu_fin s).1]; exact h2
    have c41 : (okU (uuV s)) = true := (uuV_ok h2).1
    have c42 : (nuK18 s) = true := by unfold nuK18; rw [ok_nv, ok_nv]; rfl
    have c43 : (nuK19 s) = false := by unfold nuK19; exact cmp_uu h2
    have c23 : (uuK (tx n)) = false := h4
    have c24 : (nuK9 n) = false := by unfold nuK9; rw [← (uu_fin (tx n)).1]; exact h4
    have c25 : (uuV (tx n) != 0) = false := by rw [uuV_no h4]; rfl
    have c29 : (udK (tx u)) = true := h5
    have c30 : (nuK10 u) = true := by unfold nuK10; rw [← (ud_fin (tx u)).1]; exact h5
    have c31 : (okI (udV (tx u))) = true := (udV_ok h5).1
    have c32 : (nuK14 u) = true := by unfold nuK14; rw [ok_nv, ok_nv]; rfl
    have c33 : (nuK15 u) = false := by unfold nuK15; exact cmp_ud h5
    exact Tree.way_holds (nums_nyny_way hR n u s) (by rw [c0, c1, c2, c3, c4, c5, c6, c17, c18, c19, c39, c40, c41, c42, c43, c7, c8, c9, c10, c11, c23, c24, c25, c29, c30, c31, c32, c33, c12, c13, c14, c15, c16]; rfl)
  · skip
    have c17 : (udK s) = false := h1
    have c18 : (nuK4 s) = false := by unfold nuK4; rw [← (ud_fin s).1]; exact h1
    have c19 : (udV s != 0) = false := by rw [udV_no h1]; rfl
    have c39 : (uuK s) = true := h2
    have c40 : (nuK5 s) = true := by unfold nuK5; rw [← (uu_fin s).1]; exact h2
    have c41 : (okU (uuV s)) = true := (uuV_ok h2).1
    have c42 : (nuK18 s) = true := by unfold nuK18; rw [ok_nv, ok_nv]; rfl
    have c43 : (nuK19 s) = false := by unfold nuK19; exact cmp_uu h2
    have c34 : (uuK (tx n)) = true := h4
    have c35 : (nuK9 n) = true := by unfold nuK9; rw [← (uu_fin (tx n)).1]; exact h4
    have c36 : (okU (uuV (tx n))) = true := (uuV_ok h4).1
    have c37 : (nuK16 n) = true := by unfold nuK16; rw [ok_nv, ok_nv]; rfl
    have c38 : (nuK17 n) = false := by unfold nuK17; exact cmp_uu h4
    have c26 : (udK (tx u)) = false := h5
    have c27 : (nuK10 u) = false := by unfold nuK10; rw [← (ud_fin (tx u)).1]; exact h5
    have c28 : (udV (tx u) != 0) = false := by rw [udV_no h5]; rfl
    exact Tree.way_holds (nums_nyyn_way hR n u s) (by rw [c0, c1, c2, c3, c4, c5, c6, c17, c18, c19, c39, c40, c41, c42, c43, c7, c8, c9, c10, c11, c34, c35, c36, c37, c38, c26, c27, c28, c12, c13, c14, c15, c16]; rfl)
  · skip
    have c17 : (udK s) = false := h1
    have c18 : (nuK4 s) = false := by unfold nuK4; rw [← (ud_fin s).1]; exact h1
    have c19 : (udV s != 0) = false := by rw [udV_no h1]; rfl
    have c39 : (uuK s) = true := h2
    have c40 : (nuK5 s) = true := by unfold nuK5; rw [← (uu_fin s).1]; exact h2
    have c41 : (okU (uuV s)) = true := (uuV_ok h2).1
    have c42 : (nuK18 s) = true := by unfold nuK18; rw [ok_nv, ok_nv]; rfl
    have c43 : (nuK19 s) = false := by unfold nuK19; exact cmp_uu h2
    have c34 : (uuK (tx n)) = true := h4
    have c35 : (nuK9 n) = true := by unfold nuK9; rw [← (uu_fin (tx n)).1]; exact h4
    have c36 : (okU (uuV (tx n))) = true := (uuV_ok h4).1
    have c37 : (nuK16 n) = true := by unfold nuK16; rw [ok_nv, ok_nv]; rfl
    have c38 : (nuK17 n) = false := by unfold nuK17; exact cmp_uu h4
    have c29 : (udK (tx u)) = true := h5
    have c30 : (nuK10 u) = true := by unfold nuK10; rw [← (ud_fin (tx u)).1]; exact h5
    have c31 : (okI (udV (tx u))) = true := (udV_ok h5).1
    have c32 : (nuK14 u) = true := by unfold nuK14; rw [ok_nv, ok_nv]; rfl
    have c33 : (nuK15 u) = false := by unfold nuK15; exact cmp_ud h5
    exact Tree.way_holds (nums_nyyy_way hR n u s) (by rw [c0, c1, c2, c3, c4, c5, c6, c17, c18, c19, c39, c40, c41, c42, c43, c7, c8, c9, c10, c11, c34, c35, c36, c37, c38, c29, c30, c31, c32, c33, c12, c13, c14, c15, c16]; rfl)
  · skip
    have c44 : (udK s) = true := h1
    have c45 : (nuK4 s) = true := by unfold nuK4; rw [← (ud_fin s).1]; exact h1
    have c46 : (okI (udV s)) = true := (udV_ok h1).1
    have c47 : (nuK20 s) = true := by unfold nuK20; rw [ok_nv, ok_nv]; rfl
    have c48 : (nuK21 s) = false := by unfold nuK21; exact cmp_ud h1
    have c20 : (uuK s) = false := h2
    have c21 : (nuK5 s) = false := by unfold nuK5; rw [← (uu_fin s).1]; exact h2
    have c22 : (uuV s != 0) = false := by rw [uuV_no h2]; rfl
    have c23 : (uuK (tx n)) = false := h4
    have c24 : (nuK9 n) = false := by unfold nuK9; rw [← (uu_fin (tx n)).1]; exact h4
    have c25 : (uuV (tx n) != 0) = false := by rw [uuV_no h4]; rfl
    have c26 : (udK (tx u)) = false := h5
    have c27 : (nuK10 u) = false := by unfold nuK10; rw [← (ud_fin (tx u)).1]; exact h5
    have c28 : (udV (tx u) != 0) = false := by rw [udV_no h5]; rfl
    exact Tree.way_holds (nums_ynnn_way hR n u s) (by rw [c0, c1, c2, c3, c4, c5, c6, c44, c45, c46, c47, c48, c20, c21, c22, c7, c8, c9, c10, c11, c23, c24, c25, c26, c27, c28, c12, c13, c14, c15, c16]; rfl)
  · skip
    have c44 : (udK s) = true := h1
    have c45 : (nuK4 s) = true := by unfold nuK4; rw [← (ud_fin s).1]; exact h1
    have c46 : (okI (udV s)) = true := (udV_ok h1).1
    have c47 : (nuK20 s) = true := by unfold nuK20; rw [ok_nv, ok_nv]; rfl
    have c48 : (nuK21 s) = false := by unfold nuK21; exact cmp_ud h1
    have c20 : (uuK s) = false := h2
    have c21 : (nuK5 s) = false := by unfold nuK5; rw [← (uu_fin s).1]; exact h2
    have c22 : (uuV s != 0) = false := by rw [uuV_no h2]; rfl
    have c23 : (uuK (tx n)) = false := h4
    have c24 : (nuK9 n) = false := by unfold nuK9; rw [← (uu_fin (tx n)).1]; exact h4
    have c25 : (uuV (tx n) != 0) = false := by rw [uuV_no h4]; rfl
    have c29 : (udK (tx u)) = true := h5
    have c30 : (nuK10 u) = true := by unfold nuK10; rw [← (ud_fin (tx u)).1]; exact h5
    have c31 : (okI (udV (tx u))) = true := (udV_ok h5).1
    have c32 : (nuK14 u) = true := by unfold nuK14; rw [ok_nv, ok_nv]; rfl
    have c33 : (nuK15 u) = false := by unfold nuK15; exact cmp_ud h5
    exact Tree.way_holds (nums_ynny_way hR n u s) (by rw [c0, c1, c2, c3, c4, c5, c6, c44, c45, c46, c47, c48, c20, c21, c22, c7, c8, c9, c10, c11, c23, c24, c25, c29, c30, c31, c32, c33, c12, c13, c14, c15, c16]; rfl)
  · skip
    have c44 : (udK s) = true := h1
    have c45 : (nuK4 s) = true := by unfold nuK4; rw [← (ud_fin s).1]; exact h1
    have c46 : (okI (udV s)) = true := (udV_ok h1).1
    have c47 : (nuK20 s) = true := by unfold nuK20; rw [ok_nv, ok_nv]; rfl
    have c48 : (nuK21 s) = false := by unfold nuK21; exact cmp_ud h1
    have c20 : (uuK s) = false := h2
    have c21 : (nuK5 s) = false := by unfold nuK5; rw [← (uu_fin s).1]; exact h2
    have c22 : (uuV s != 0) = false := by rw [uuV_no h2]; rfl
    have c34 : (uuK (tx n)) = true := h4
    have c35 : (nuK9 n) = true := by unfold nuK9; rw [← (uu_fin (tx n)).1]; exact h4
    have c36 : (okU (uuV (tx n))) = true := (uuV_ok h4).1
    have c37 : (nuK16 n) = true := by unfold nuK16; rw [ok_nv, ok_nv]; rfl
    have c38 : (nuK17 n) = false := by unfold nuK17; exact cmp_uu h4
    have c26 : (udK (tx u)) = false := h5
    have c27 : (nuK10 u) = false := by unfold nuK10; rw [← (ud_fin (tx u)).1]; exact h5
    have c28 : (udV (tx u) != 0) = false := by rw [udV_no h5]; rfl
    exact Tree.way_holds (nums_ynyn_way hR n u s) (by rw [c0, c1, c2, c3, c4, c5, c6, c44, c45, c46, c47, c48, c20, c21, c22, c7, c8, c9, c10, c11, c34, c35, c36, c37, c38, c26, c27, c28, c12, c13, c14, c15, c16]; rfl)
  · skip
    have c44 : (udK s) = true := h1
    have c45 : (nuK4 s) = true := by unfold nuK4; rw [← (ud_fin s).1]; exact h1
    have c46 : (okI (udV s)) = true := (udV_ok h1).1
    have c47 : (nuK20 s) = true := by unfold nuK20; rw [ok_nv, ok_nv]; rfl
    have c48 : (nuK21 s) = false := by unfold nuK21; exact cmp_ud h1
    have c20 : (uuK s) = false := h2
    have c21 : (nuK5 s) = false := by unfold nuK5; rw [← (uu_fin s).1]; exact h2
    have c22 : (uuV s != 0) = false := by rw [uuV_no h2]; rfl
    have c34 : (uuK (tx n)) = true := h4
    have c35 : (nuK9 n) = true := by unfold nuK9; rw [← (uu_fin (tx n)).1]; exact h4
    have c36 : (okU (uuV (tx n))) = true := (uuV_ok h4).1
    have c37 : (nuK16 n) = true := by unfold nuK16; rw [ok_nv, ok_nv]; rfl
    have c38 : (nuK17 n) = false := by unfold nuK17; exact cmp_uu h4
    have c29 : (udK (tx u)) = true := h5
    have c30 : (nuK10 u) = true := by unfold nuK10; rw [← (ud_fin (tx u)).1]; exact h5
    have c31 : (okI (udV (tx u))) = true := (udV_ok h5).1
    have c32 : (nuK14 u) = true := by unfold nuK14; rw [ok_nv, ok_nv]; rfl
    have c33 : (nuK15 u) = false := by unfold nuK15; exact cmp_ud h5
    exact Tree.way_holds (nums_ynyy_way hR n u s) (by rw [c0, c1, c2, c3, c4, c5, c6, c44, c45, c46, c47, c48, c20, c21, c22, c7, c8, c9, c10, c11, c34, c35, c36, c37, c38, c29, c30, c31, c32, c33, c12, c13, c14, c15, c16]; rfl)
  · skip
    have c44 : (udK s) = true := h1
    have c45 : (nuK4 s) = true := by unfold nuK4; rw [← (ud_fin s).1]; exact h1
    have c46 : (okI (udV s)) = true := (udV_ok h1).1
    have c47 : (nuK20 s) = true := by unfold nuK20; rw [ok_nv, ok_nv]; rfl
    have c48 : (nuK21 s) = false := by unfold nuK21; exact cmp_ud h1
    have c39 : (uuK s) = true := h2
    have c40 : (nuK5 s) = true := by unfold nuK5; rw [← (uu_fin s).1]; exact h2
    have c41 : (okU (uuV s)) = true := (uuV_ok h2).1
    have c42 : (nuK18 s) = true := by unfold nuK18; rw [ok_nv, ok_nv]; rfl
    have c43 : (nuK19 s) = false := by unfold nuK19; exact cmp_uu h2
    have c23 : (uuK (tx n)) = false := h4
    have c24 : (nuK9 n) = false := by unfold nuK9; rw [← (uu_fin (tx n)).1]; exact h4
    have c25 : (uuV (tx n) != 0) = false := by rw [uuV_no h4]; rfl
    have c26 : (udK (tx u)) = false := h5
    have c27 : (nuK10 u) = false := by unfold nuK10; rw [← (ud_fin (tx u)).1]; exact h5
    have c28 : (udV (tx u) != 0) = false := by rw [udV_no h5]; rfl
    exact Tree.way_holds (nums_yynn_way hR n u s) (by rw [c0, c1, c2, c3, c4, c5, c6, c44, c45, c46, c47, c48, c39, c40, c41, c42, c43, c7, c8, c9, c10, c11, c23, c24, c25, c26, c27, c28, c12, c13, c14, c15, c16]; rfl)
  · skip
    have c44 : (udK s) = true := h1
    have c45 : (nuK4 s) = true := by unfold nuK4; rw [← (ud_fin s).1]; exact h1
    have c46 : (okI (udV s)) = true := (udV_ok h1).1
    have c47 : (nuK20 s) = true := by unfold nuK20; rw [ok_nv, ok_nv]; rfl
    have c48 : (nuK21 s) = false := by unfold nuK21; exact cmp_ud h1
    have c39 : (uuK s) = true := h2
    have c40 : (nuK5 s) = true := by unfold nuK5; rw [← (uu_fin s).1]; exact h2
    have c41 : (okU (uuV s)) = true := (uuV_ok h2).1
    have c42 : (nuK18 s) = true := by unfold nuK18; rw [ok_nv, ok_nv]; rfl
    have c43 : (nuK19 s) = false := by unfold nuK19; exact cmp_uu h2
    have c23 : (uuK (tx n)) = false := h4
    have c24 : (nuK9 n) = false := by unfold nuK9; rw [← (uu_fin (tx n)).1]; exact h4
    have c25 : (uuV (tx n) != 0) = false := by rw [uuV_no h4]; rfl
    have c29 : (udK (tx u)) = true := h5
    have c30 : (nuK10 u) = true := by unfold nuK10; rw [← (ud_fin (tx u)).1]; exact h5
    have c31 : (okI (udV (tx u))) = true := (udV_ok h5).1
    have c32 : (nuK14 u) = true := by unfold nuK14; rw [ok_nv, ok_nv]; rfl
    have c33 : (nuK15 u) = false := by unfold nuK15; exact cmp_ud h5
    exact Tree.way_holds (nums_yyny_way hR n u s) (by rw [c0, c1, c2, c3, c4, c5, c6, c44, c45, c46, c47, c48, c39, c40, c41, c42, c43, c7, c8, c9, c10, c11, c23, c24, c25, c29, c30, c31, c32, c33, c12, c13, c14, c15, c16]; rfl)
  · skip
    have c44 : (udK s) = true := h1
    have c45 : (nuK4 s) = true := by unfold nuK4; rw [← (ud_fin s).1]; exact h1
    have c46 : (okI (udV s)) = true := (udV_ok h1).1
    have c47 : (nuK20 s) = true := by unfold nuK20; rw [ok_nv, ok_nv]; rfl
    have c48 : (nuK21 s) = false := by unfold nuK21; exact cmp_ud h1
    have c39 : (uuK s) = true := h2
    have c40 : (nuK5 s) = true := by unfold nuK5; rw [← (uu_fin s).1]; exact h2
    have c41 : (okU (uuV s)) = true := (uuV_ok h2).1
    have c42 : (nuK18 s) = true := by unfold nuK18; rw [ok_nv, ok_nv]; rfl
    have c43 : (nuK19 s) = false := by unfold nuK19; exact cmp_uu h2
    have c34 : (uuK (tx n)) = true := h4
    have c35 : (nuK9 n) = true := by unfold nuK9; rw [← (uu_fin (tx n)).1]; exact h4
    have c36 : (okU (uuV (tx n))) = true := (uuV_ok h4).1
    have c37 : (nuK16 n) = true := by unfold nuK16; rw [ok_nv, ok_nv]; rfl
    have c38 : (nuK17 n) = false := by unfold nuK17; exact cmp_uu h4
    have c26 : (udK (tx u)) = false := h5
    have c27 : (nuK10 u) = false := by unfold nuK10; rw [← (ud_fin (tx u)).1]; exact h5
    have c28 : (udV (tx u) != 0) = false := by rw [udV_no h5]; rfl
    exact Tree.way_holds (nums_yyyn_way hR n u s) (by rw [c0, c1, c2, c3, c4, c5, c6, c44, c45, c46, c47, c48, c39, c40, c41, c42, c43, c7, c8, c9, c10, c11, c34, c35, c36, c37, c38, c26, c27, c28, c12, c13, c14, c15, c16]; rfl)
  · skip
    have c44 : (udK s) = true := h1
    have c45 : (nuK4 s) = true := by unfold nuK4; rw [← (ud_fin s).1]; exact h1
    have c46 : (okI (udV s)) = true := (udV_ok h1).1
    have c47 : (nuK20 s) = true := by unfold nuK20; rw [ok_nv, ok_nv]; rfl
    have c48 : (nuK21 s) = false := by unfold nuK21; exact cmp_ud h1
    have c39 : (uuK s) = true := h2
    have c40 : (nuK5 s) = true := by unfold nuK5; rw [← (uu_fin s).1]; exact h2
    have c41 : (okU (uuV s)) = true := (uuV_ok h2).1
    have c42 : (nuK18 s) = true := by unfold nuK18; rw [ok_nv, ok_nv]; rfl
    have c43 : (nuK19 s) = false := by unfold nuK19; exact cmp_uu h2
    have c34 : (uuK (tx n)) = true := h4
    have c35 : (nuK9 n) = true := by unfold nuK9; rw [← (uu_fin (tx n)).1]; exact h4
    have c36 : (okU (uuV (tx n))) = true := (uuV_ok h4).1
    have c37 : (nuK16 n) = true := by unfold nuK16; rw [ok_nv, ok_nv]; rfl
    have c38 : (nuK17 n) = false := by unfold nuK17; exact cmp_uu h4
    have c29 : (udK (tx u)) = true := h5
    have c30 : (nuK10 u) = true := by unfold nuK10; rw [← (ud_fin (tx u)).1]; exact h5
    have c31 : (okI (udV (tx u))) = true := (udV_ok h5).1
    have c32 : (nuK14 u) = true := by unfold nuK14; rw [ok_nv, ok_nv]; rfl
    have c33 : (nuK15 u) = false := by unfold nuK15; exact cmp_ud h5
    exact Tree.way_holds (nums_yyyy_way hR n u s) (by rw [c0, c1, c2, c3, c4, c5, c6, c44, c45, c46, c47, c48, c39, c40, c41, c42, c43, c7, c8, c9, c10, c11, c34, c35, c36, c37, c38, c29, c30, c31, c32, c33, c12, c13, c14, c15, c16]; rfl)
set_option maxHeartbeats 8000000 in
theorem wides_true (hR : Rt) (x : Int) (ix : InR x) (s : ByteArray) :
    ((evW hR).call [] 4 #[.agg #[.int .i64 (hi x), .int .u64 (lo x)], .string s] [] B0).holds fun r => r.v = .bool true := by
  rcases Nat.lt_or_ge 300 s.size with hs | hs
  · exact Tree.way_holds (wides_l_way hR (hi x) (lo x) s) (by unfold nuK0; rw [decide_eq_true (by omega)]; rfl)
  have h2 : uwK (tx (W2 (hi x) (lo x))) = true := by rw [W2_hilo]; exact uwK_tx ix
  have c0 : (nuK0 s) = false := by unfold nuK0; rw [decide_eq_false_iff_not]; omega
  have c1 : (nuK22 (hi x) (lo x)) = true := by unfold nuK22; exact dw_ok ix
  have c2 : (okW (hi x) (lo x)) = true := okW_hilo ix
  have c3 : (nuK23 (hi x) (lo x)) = true := by unfold nuK23; exact ok_nv _
  have c4 : (nuK24 (hi x) (lo x)) = false := by unfold nuK24; rw [W2_hilo]; exact tx_same (by unfold InR at ix; omega) (by unfold InR at ix; omega)
  have c5 : (uwK (tx (W2 (hi x) (lo x)))) = true := h2
  have c6 : (nuK27 (hi x) (lo x)) = true := by unfold nuK27; rw [← (uw_fin (tx (W2 (hi x) (lo x)))).1]; exact h2
  have c7 : (nuK28 (hi x) (lo x)) = true := by unfold nuK28; exact ok_nv _
  have c8 : (nuK29 (hi x) (lo x)) = false := by unfold nuK29; exact wide_same h2
  cases h1 : uwK s
  · skip
    have c9 : (uwK s) = false := h1
    have c10 : (nuK25 s) = false := by unfold nuK25; rw [← (uw_fin s).1]; exact h1
    have c11 : (nuK26 s) = false := by unfold nuK26; rw [uwV_no h1]; rfl
    exact Tree.way_holds (wides_n_way hR (hi x) (lo x) s) (by rw [c0, c1, c2, c3, c4, c9, c10, c11, c5, c6, c7, c8]; rfl)
  · skip
    have c12 : (uwK s) = true := h1
    have c13 : (nuK25 s) = true := by unfold nuK25; rw [← (uw_fin s).1]; exact h1
    have c14 : (nuK30 s) = true := by unfold nuK30; exact ok_nv _
    have c15 : (nuK31 s) = false := by unfold nuK31; exact wide_same h1
    exact Tree.way_holds (wides_y_way hR (hi x) (lo x) s) (by rw [c0, c1, c2, c3, c4, c12, c13, c14, c15, c5, c6, c7, c8]; rfl)
theorem textNumbers_walk (hR : Rt) (n : Int) (hn0 : -9223372036854775808 ≤ n) (hn1 : n ≤ 9223372036854775807) (u : Int) (hu0 : 0 ≤ u) (hu1 : u ≤ 18446744073709551615) (s : ByteArray) (w : World) (hw : Held w) :
    Calls Tryd.prog 3 #[.int .i64 n, .int .u64 u, .string s] w fun e w' => e = .returned (.bool true) ∧ Below w.heap.size w w' := by
  have h := calls_law (envS.mem false ((pkKnown hR).mem :: (memsT hR ++ pmsN))) hcokP 80 (v := .bool true) (nums_true hR n u hn0 hn1 hu0 hu1 s) rfl (Nat.le_refl _)
    (fun b hb => rfl) (Nat.zero_le _) ?_ w hw
  · have e : (#[.int .i64 n, .int .u64 u, .string s] : Array Value).map (ren (default : Names).ρ) = #[.int .i64 n, .int .u64 u, .string s] := by
      simp [ren]
    rw [e] at h; exact h
  · intro y hy
    simp only [List.mem_toArray, List.mem_cons, List.not_mem_nil, or_false] at hy
    rcases hy with rfl | rfl | rfl <;> rfl
theorem textWides_walk (hR : Rt) (x : Int) (ix : InR x) (s : ByteArray) (w : World) (hw : Held w) :
    Calls Tryd.prog 4 #[.agg #[.int .i64 (hi x), .int .u64 (lo x)], .string s] w fun e w' => e = .returned (.bool true) ∧ Below w.heap.size w w' := by
  have h := calls_law (envS.mem false ((pkKnown hR).mem :: (memsT hR ++ pmsN))) hcokP 80 (v := .bool true) (wides_true hR x ix s) rfl (Nat.le_refl _)
    (fun b hb => rfl) (Nat.zero_le _) ?_ w hw
  · have e : (#[.agg #[.int .i64 (hi x), .int .u64 (lo x)], .string s] : Array Value).map (ren (default : Names).ρ) = #[.agg #[.int .i64 (hi x), .int .u64 (lo x)], .string s] := by
      simp [ren, renL]
    rw [e] at h; exact h
  · intro y hy
    simp only [List.mem_toArray, List.mem_cons, List.not_mem_nil, or_false] at hy
    rcases hy with rfl | rfl <;> rfl
end

end Go.Proofs.YtfjfmcnnakfjnaaDoor
