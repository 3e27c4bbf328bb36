
/-
  Octet: slices.Clone and slices.Reverse of bytes.
-/
import Derived.Test.YtbmifinomdcllaaOcM

import Derived.Laws.AppendOwn

import Derived.Laws.OwnMore

import Derived.Deep.AppendLies

import Derived.Deep.LoopGhost

import Derived.Lib.SliceRun

import Derived.Lib.SlicesMore

import Derived.Sort.WalkB12

import Derived.Lib.OwnBridge

import Derived.Laws.BytesString

import Derived.Laws.IdiomStrings

namespace Go.Proofs.Ytbmifinomdcllaa

open Go.RowKit Go.Lib Go.Sort

set_option maxRecDepth 100000

theorem info_u8b : (Try.prog.info? 5).map (fun i => (i.zero, i.size, i.bytes)) = some (some (.int .u8 0), 1, 1) := by kernel_rfl
def encB (c : UInt8) : Value := .int .u8 (c.toNat : Int)
/-- A row of bytes of the call's own. -/
def Own (w : World) (B : Nat) (A : Option Addr) (l : List UInt8) : Prop := l ≠ [] → ∃ g, A = some ⟨g, 0, none⟩ ∧ B ≤ g ∧ g < w.heap.size ∧ Holds encB w g 0 l.toArray
theorem own_of {w : World} {B : Nat} {v : Value} {n : Nat} {l : List UInt8} (h : w.ownsRow B 5 1 v n (l.map u8)) : ∃ A c, v = .slice A l.length c ∧ Own w B A l := by
  have hl : l.length = n := by have := h.1; simpa using this
  obtain ⟨_, ⟨rfl, h0⟩ | ⟨g, cap, cur, rfl, hg, hb, hc, hm, hs, ht⟩⟩ := h
  · have : l = [] := List.eq_nil_of_length_eq_zero (by omega)
    subst this
    exact ⟨none, 0, rfl, fun h => absurd rfl h⟩
  · have hblt : g < w.heap.size := by
      rcases Nat.lt_or_ge g w.heap.size with hlt | hge
      · exact hlt
      · rw [Array.getElem?_eq_none hge] at hb; cases hb
    refine ⟨_, cap, by rw [hl], fun _ => ⟨g, rfl, hg, hblt, fun j hj => ?_⟩⟩
    have hj2 : j < l.length := by simpa using hj
    constructor
    · have h1 : (cur.toList.take (n * 1))[j]? = some (u8 l[j]) := by rw [ht]; simp [hj2]
      rw [List.getElem?_take, if_pos (by omega)] at h1
      simp only [World.cell?, hb]
      rw [Nat.zero_add, getElem!_pos _ j hj]
      simpa [encB] using h1
    · simp [World.frozen?, hb]
theorem Own.rd {w : World} {B : Nat} {A : Option Addr} {l : List UInt8} (h : Own w B A l) : Rd w A l := fun hl => by
  obtain ⟨g, rfl, _, _, hh⟩ := h hl
  refine ⟨g, 0, rfl, fun j x hx => ?_⟩
  obtain ⟨hj, rfl⟩ := List.getElem?_eq_some_iff.1 hx
  have := (hh j (by simpa using hj)).1
  rw [getElem!_pos _ j (by simpa using hj)] at this
  simpa [encB] using this
set_option maxHeartbeats 2000000 in
theorem clone_any (a : Addr) (l : List UInt8) (cap : Nat) (hlen : l.length ≤ 1048576) (w : World) (hr : Rd w (some a) l) :
    Calls Try.prog 19 #[.slice (some a) l.length cap] w fun e w' => ∃ A c, e = .returned (.slice A l.length c) ∧ Own w' w.heap.size A l ∧ Below w.heap.size w w' := by
  obtain ⟨i0, hi, hz0, hz1, hz2⟩ := info_parts info_u8b
  have HI := Lib.hid hi
  have q22 : ∀ (w : World) (a : Option Addr) (n c n' c' : Nat), (binOp .eql 22 (.slice a n c) (.slice none n' c')).run Try.prog w = .ok (.bool a.isNone) w := fun w a n c n' c' => Lib.run_eql_slice_nil w _ _ a n c n' c' Try.underlying22
  have hc : ∀ j u, (l.map u8)[j]? = some u → w.cell? (a.add j) = some u := fun j u hu => by
    rw [List.getElem?_map] at hu
    cases hx : l[j]? with
    | none => rw [hx] at hu; cases hu
    | some x =>
      rw [hx] at hu; cases hu
      obtain ⟨blk, off, ha, hcc⟩ := hr (by rintro rfl; simp at hx)
      cases ha
      rw [plain_add]; exact hcc j x hx
  have HC := Lib.hid hc
  clear hc hi hr
  go_enter Try.func19, Try.ntmps19
  go_wp2_with (at_builtin; refine wpList_append_own _ rfl _ _ 22 rfl w.heap.size 5 i0 (.int .u8 0) 1 1 Try.underlying22 HI.out hz0 hz1 hz2 rfl (by decide) _ _ _ rfl (World.ownsRow_made w #[] 0 (Nat.le_refl _) (Nat.zero_le _) rfl) a l.length cap (l.map u8) rfl ?qc1 ?qc2 ?qc3 ?qc4 ?qc5 ?qc6 ?_)
  case qc1 => simp
  case qc2 => intro j u hu; exact Lib.cell?_alloc_some _ (HC.out j u hu)
  case qc3 => intro u hu; obtain ⟨x, _, rfl⟩ := List.mem_map.1 hu; rfl
  case qc4 => unfold maxLen; omega
  case qc5 => omega
  case qc6 => simp
  intro v' w1 hown hgrow hnil
  have hown2 : w1.ownsRow w.heap.size 5 1 v' l.length (l.map u8) := by simpa using hown
  have HO := Lib.hid hown2; have HG := Lib.hid hgrow
  clear hown hown2 hgrow hnil
  go_wp2
  go_ret
  obtain ⟨A, c, rfl, ho⟩ := own_of HO.out
  exact ⟨A, c, rfl, ho, ((Below.refl _ w).alloc (Nat.le_refl _) _).grown HG.out (by simp) (by intro k hk; simp [Value.ownBlock] at hk; omega)⟩
set_option maxHeartbeats 1600000 in
theorem reverse_arr (blk off cap : Nat) (d : Array UInt8) (w : World) (hH : Holds encB w blk off d) (hsz : d.size ≤ 1048576) :
    Calls Try.prog 20 #[.slice (some ⟨blk, off, none⟩) d.size cap] w fun e w' => e = .returned (.tuple #[]) ∧ ∃ n, w' = putRow encB (Sort.ahead w n) blk off d.reverse := by
  go_enter Try.func20, Try.ntmps20
  go_wp2
  go_loopg [2, 3] d.size (fun k s2 s3 wr => ∃ (i jn : Nat) (jz : Int) (dk : Array UInt8) (n : Nat), s2 = .int .i64 i ∧ s3 = .int .i64 jz ∧ ((i : Int) < jz → jz = jn ∧ jn < d.size) ∧ (¬ (i : Int) < jz → ¬ i < jn) ∧ jn - i ≤ k ∧
    dk.size = d.size ∧ wr = putRow encB (Sort.ahead w n) blk off dk ∧ reverseLoop i jn dk = reverseLoop 0 (d.size - 1) d)
  case atStart => exact ⟨0, d.size - 1, (d.size : Int) - 1, d, 0, rfl, rfl, fun h => ⟨by omega, by omega⟩, fun h => by omega, by omega, rfl, (putRow_self encB w blk off d hH).symm, rfl⟩
  case round =>
    obtain ⟨i, jn, jz, dk, n, rfl, rfl, h1, h2, hk, hds, hwr, heq⟩ := hrel
    by_cases hlt : (i : Int) < jz
    · obtain ⟨rfl, hjn⟩ := h1 hlt
      have hij : i < jn := by omega
      have hHk : Holds encB wr blk off dk := by rw [hwr]; exact holds_putRow encB _ blk off d dk (holds_ahead encB w n blk off d hH) hds
      obtain ⟨ci, fi⟩ := hHk i (by omega)
      obtain ⟨cj, fj⟩ := hHk jn (by omega)
      have A := Lib.hid (show wr = putRow encB (Sort.ahead w n) blk off dk from hwr)
      have HE := Lib.hid heq
      unfold encB at ci cj
      clear hwr hHk hH h1 h2 heq
      go_wp2_with fail
      go_region
      go_wp2
      go_roundg (jn - 1 - (i + 1))
      case measure => omega
      case rel =>
        have heq := HE.out
        rw [reverseLoop, if_pos hij] at heq
        exact ⟨i + 1, jn - 1, (jn : Int) - 1, swp dk i jn, n + 1, by simp, rfl, fun h => ⟨by omega, by omega⟩, fun h => by omega, Nat.le_refl _, by rw [size_swp]; exact hds,
          swap_world encB (by omega) (by omega) A.out (by first | rfl | simp [encB, getElem!_pos, show jn < dk.size by omega]) (by first | rfl | simp [encB, getElem!_pos, show i < dk.size by omega]), heq⟩
    · have hnot := h2 hlt
      have HW := Lib.hid hwr; have HE := Lib.hid heq
      clear hwr heq
      go_wp2
      go_end0
      refine ⟨rfl, n, ?_⟩
      have heq := HE.out
      rw [reverseLoop, if_neg hnot] at heq
      rw [← Lib.reverseLoop_reverse, ← heq]
      exact HW.out
theorem reverse_none (a : Option Addr) (cap : Nat) (w : World) :
    Calls Try.prog 20 #[.slice a 0 cap] w fun e w' => e = .returned (.tuple #[]) ∧ w' = w := by
  go_enter Try.func20, Try.ntmps20
  go_wp2
  go_loopg [2, 3] 0 (fun _ s2 s3 wr => s2 = .int .i64 0 ∧ s3 = .int .i64 (-1) ∧ wr = w)
  case atStart => exact ⟨rfl, rfl, rfl⟩
  case round =>
    obtain ⟨rfl, rfl, rfl⟩ := hrel
    go_wp2
    go_end0
    exact ⟨rfl, rfl⟩
theorem reverse_any (A : Option Addr) (l : List UInt8) (cap B : Nat) (hlen : l.length ≤ 1048576) (w : World) (h : Own w B A l) :
    Calls Try.prog 20 #[.slice A l.length cap] w fun e w' => e = .returned (.tuple #[]) ∧ Own w' B A l.reverse ∧ Below B w w' := by
  by_cases hl : l = []
  · subst hl
    exact (reverse_none A cap w).mono fun e w' ⟨h1, h2⟩ => ⟨h1, fun h => absurd rfl h, h2 ▸ Below.refl _ _⟩
  · obtain ⟨g, rfl, hg, hlt, hh⟩ := h hl
    refine (reverse_arr g 0 cap l.toArray w hh (by simpa using hlen)).mono ?_
    rintro e w' ⟨rfl, n, rfl⟩
    refine ⟨rfl, fun _ => ⟨g, rfl, hg, ?_, ?_⟩, Lib.below_putRow (Below.refl _ w) hg⟩
    · have hz : (Sort.ahead w n).heap.size ≤ (putRow encB (Sort.ahead w n) g 0 l.toArray.reverse).heap.size := by simp [putRow, mapBlock]
      exact Nat.lt_of_lt_of_le hlt hz
    · have h2 := holds_putRow encB (Sort.ahead w n) g 0 l.toArray l.toArray.reverse (holds_ahead encB w n g 0 _ hh) (by simp)
      rw [List.reverse_toArray] at h2 ⊢
      exact h2
theorem conv_rd {w : World} {A : Option Addr} {l : List UInt8} (h : Rd w A l) (c : Nat) : (convert 22 9 (.slice A l.length c)).run Try.prog w = .ok (.string ⟨l.toArray⟩) w := by
  by_cases hl : l = []
  · subst hl
    cases A with
    | none =>
      rw [run_convert_bytes_string w 22 9 5 none _ _ Try.underlying22 Try.underlying5 Try.underlying9]
      simp [Conv.bytesToString]; rfl
    | some a => exact run_convert_bytes_back (P := Try.prog) w 22 9 5 a c [] Try.underlying22 Try.underlying5 Try.underlying9 (fun j hj => by simp at hj)
  · obtain ⟨blk, off, rfl, hc⟩ := h hl
    refine run_convert_bytes_back (P := Try.prog) w 22 9 5 ⟨blk, off, none⟩ c l Try.underlying22 Try.underlying5 Try.underlying9 (fun j hj => ?_)
    rw [plain_add]; exact hc j _ (List.getElem?_eq_getElem hj)
end Go.Proofs.Ytbmifinomdcllaa
