/-
  Own texts, merged: AoK AoL AoN AoP AoQ AoR
-/
import Derived.Deep.CutBlock
import Derived.Deep.DeepCutAuto
import Derived.Test.YtmfdnbjmfgljlaaGreatDoorQ6


/-
  The document's reading of an address: what its loops keep.
-/

namespace Go.Proofs.YtmfdnbjmfgljlaaGreatDoor

open Go.Den Go.RowKit

set_option maxRecDepth 100000

set_option linter.unusedSectionVars false

theorem cut2_short : ∀ {l : List UInt8}, l.length ≤ 1 → cut2 l = none
  | [], _ => rfl
  | [b], _ => by
    rw [cut2, if_neg (fun h => by cases h.2)]; rfl
  | _ :: _ :: _, h => by simp at h
theorem cut2_drop {l : List UInt8} {j : Nat} (h : j < l.length) : cut2 (l.drop j) = if l[j] = 58 ∧ l[j + 1]? = some 58 then some ([], l.drop (j + 2)) else (cut2 (l.drop (j + 1))).map fun p => (l[j] :: p.1, p.2) := by
  rw [List.drop_eq_getElem_cons h, cut2, List.head?_drop, List.tail_drop]
/-- Up to j no two colons begin. -/
def CutAt (l : List UInt8) (j : Nat) : Prop := cut2 l = (cut2 (l.drop j)).map fun p => (l.take j ++ p.1, p.2)
theorem cutAt_zero (l : List UInt8) : CutAt l 0 := by
  unfold CutAt
  rw [List.drop_zero]
  cases cut2 l <;> rfl
theorem cutAt_step {l : List UInt8} {j : Nat} (h : j < l.length) (hn : ¬ (l[j] = 58 ∧ l[j + 1]? = some 58)) (hc : CutAt l j) : CutAt l (j + 1) := by
  unfold CutAt at *
  rw [hc, cut2_drop h, if_neg hn, Option.map_map]
  congr 1
  funext p
  show (l.take j ++ l[j] :: p.1, p.2) = (l.take (j + 1) ++ p.1, p.2)
  rw [List.take_succ_eq_append_getElem h, List.append_assoc]; rfl
theorem cutAt_hit {l : List UInt8} {j : Nat} (h : j < l.length) (hn : l[j] = 58 ∧ l[j + 1]? = some 58) (hc : CutAt l j) : cut2 l = some (l.take j, l.drop (j + 2)) := by
  unfold CutAt at hc
  rw [hc, cut2_drop h, if_pos hn]
  simp
theorem cutAt_end {l : List UInt8} {j : Nat} (h : l.length ≤ j + 1) (hc : CutAt l j) : cut2 l = none := by
  unfold CutAt at hc
  rw [hc, cut2_short (by rw [List.length_drop]; omega)]; rfl
/-- Of a part's groups the first i have been read. -/
def GrR (last : Bool) (r : List (List UInt8)) (i : Nat) (b : List UInt8) : Prop := i ≤ r.length ∧ (i < r.length → hexM (r.take i) = some b) ∧ (i = r.length → refM last r = some b)
theorem take_last {r : List (List UInt8)} {i : Nat} (h : i + 1 = r.length) : r = r.take i ++ [r[i]'(by omega)] := by
  rw [← List.take_succ_eq_append_getElem, List.take_of_length_le (by omega)]
theorem gr_zero (last : Bool) {r : List (List UInt8)} (h : r ≠ []) : GrR last r 0 [] :=
  ⟨Nat.zero_le _, fun _ => rfl, fun e => absurd (List.length_eq_zero_iff.1 e.symm) h⟩
theorem gr_hex {last : Bool} {r : List (List UInt8)} {i n : Nat} {b : List UInt8} (hi : i < r.length) (hg : GrR last r i b) (hx : hexG r[i] = some n) (hl : last = true → i + 1 = r.length → fourL r[i] = none) : GrR last r (i + 1) (b ++ two n) := by
  have h1 := hg.2.1 hi
  refine ⟨by omega, fun _ => hexM_step hi h1 hx, fun e => ?_⟩
  rw [take_last e, refM_snoc, h1]
  cases last
  · simp [hx]
  · have : lastG r[i] = some (two n) := by unfold lastG; rw [hl rfl e, hx]; rfl
    simp [this]
theorem gr_four {r : List (List UInt8)} {i : Nat} {b c : List UInt8} (hi : i + 1 = r.length) (hg : GrR true r i b) (hf : fourL (r[i]'(by omega)) = some c) : GrR true r (i + 1) (b ++ c) := by
  have h1 := hg.2.1 (by omega)
  refine ⟨by omega, fun h => by omega, fun e => ?_⟩
  rw [take_last e, refM_snoc, h1]
  have : lastG (r[i]'(by omega)) = some c := by unfold lastG; rw [hf]
  simp [this]
theorem gr_fail {last : Bool} {r : List (List UInt8)} {i : Nat} {b : List UInt8} (hi : i < r.length) (hg : GrR last r i b) (hx : hexG r[i] = none) (hl : last = true → i + 1 = r.length → fourL r[i] = none) : refM last r = none := by
  have h1 := hg.2.1 hi
  by_cases e : i + 1 = r.length
  · rw [take_last e, refM_snoc, h1]
    cases last
    · simp [hx]
    · have : lastG r[i] = none := by unfold lastG; rw [hl rfl e, hx]; rfl
      simp [this]
  · cases last
    · rw [refM_false]; exact hexM_none hi hx
    · have key : ∀ (a c : List (List UInt8)) (g : List UInt8), c ≠ [] → hexM a = some b → hexG g = none → refM true (a ++ g :: c) = none := by
        intro a c g hc ha hg
        obtain ⟨d, z, rfl⟩ : ∃ d z, c = d ++ [z] := ⟨c.dropLast, c.getLast hc, (List.dropLast_concat_getLast hc).symm⟩
        rw [← List.cons_append, ← List.append_assoc, refM_snoc, hexM_app, ha]
        simp [hexM, hg]
      have er : r = r.take i ++ r[i] :: r.drop (i + 1) := by rw [List.getElem_cons_drop, List.take_append_drop]
      rw [er]
      exact key _ _ _ (fun h => by have := congrArg List.length h; rw [List.length_drop, List.length_nil] at this; omega) h1 hx
theorem gr_end {last : Bool} {r : List (List UInt8)} {i : Nat} {b : List UInt8} (hi : ¬ i < r.length) (hg : GrR last r i b) : refM last r = some b := hg.2.2 (by have := hg.1; omega)
theorem gr_len {last : Bool} {r : List (List UInt8)} {i : Nat} {b : List UInt8} (hg : GrR last r i b) : b.length ≤ 2 * r.length + 4 := by
  by_cases hi : i < r.length
  · have := hexM_len (hg.2.1 hi)
    rw [List.length_take] at this; omega
  · have h := gr_end hi hg
    by_cases h0 : r.length = 0
    · have : r = [] := List.length_eq_zero_iff.1 h0
      subst this
      cases h; simp
    · have er : r = r.take (r.length - 1) ++ [r[r.length - 1]'(by omega)] := take_last (by omega)
      rw [er, refM_snoc] at h
      cases hm : hexM (r.take (r.length - 1)) with
      | none => rw [hm] at h; cases h
      | some x =>
        rw [hm, Option.bind_some] at h
        obtain ⟨y, hy, rfl⟩ := Option.map_eq_some_iff.1 h
        have h1 := hexM_len hm
        rw [List.length_take] at h1
        have h2 : y.length ≤ 4 := by
          cases last
          · obtain ⟨n, _, rfl⟩ := Option.map_eq_some_iff.1 hy; rw [len_two]; omega
          · unfold lastG at hy
            have hy' : (match fourL (r[r.length - 1]'(by omega)) with | some b => some b | none => (hexG (r[r.length - 1]'(by omega))).map two) = some y := hy
            split at hy'
            · rename_i c hc
              cases hy'
              have := fourL_len hc; omega
            · obtain ⟨n, _, rfl⟩ := Option.map_eq_some_iff.1 hy'; rw [len_two]; omega
        rw [List.length_append]; omega
/-- The document's parts, and what comes of what they come to. -/
def prts (s : ByteArray) : List ByteArray := match cut2 s.data.toList with
  | none => [s]
  | some (x, _) => [s.extract 0 x.length, s.extract (x.length + 2) s.size]
def finR (os : List (List UInt8)) : Option (List UInt8) := match os with
  | [f] => putA false f []
  | [f, b] => putA true f b
  | _ => none
theorem prts_len (s : ByteArray) : (prts s).length = 1 ∧ cut2 s.data.toList = none ∧ prts s = [s] ∨ ∃ c : Nat, c + 2 ≤ s.size ∧ (prts s).length = 2 ∧ cut2 s.data.toList = some (s.data.toList.take c, s.data.toList.drop (c + 2)) ∧ prts s = [s.extract 0 c, s.extract (c + 2) s.size] := by
  unfold prts
  cases h : cut2 s.data.toList with
  | none => exact .inl ⟨rfl, rfl, rfl⟩
  | some p =>
    obtain ⟨x, y⟩ := p
    have e := (cut2_some h).1
    have hl : x.length + 2 + y.length = s.size := by rw [← size_data, e]; simp; omega
    refine .inr ⟨x.length, by omega, rfl, ?_, rfl⟩
    have e1 : s.data.toList.take x.length = x := by rw [e, List.take_left' rfl]
    have e2 : s.data.toList.drop (x.length + 2) = y := by rw [e, ← List.drop_drop, List.drop_left' rfl]; rfl
    rw [e1, e2]
theorem par_prts (s : ByteArray) (hf : fourL s.data.toList = none) :
    (∀ (i : Nat) (h : i < (prts s).length), grpsR (decide (i + 1 = (prts s).length)) (prts s)[i].data.toList = none → parR s.data.toList = none) ∧
    (∀ os : List (List UInt8), os.length = (prts s).length → (∀ (i : Nat) (h : i < (prts s).length) (h' : i < os.length), grpsR (decide (i + 1 = (prts s).length)) (prts s)[i].data.toList = some os[i]) → parR s.data.toList = (finR os).map fun b => (true, b)) := by
  unfold parR
  rw [hf]
  rcases prts_len s with ⟨hl, hc, hp⟩ | ⟨c, hc2, hl, hc, hp⟩
  · rw [hc, hp]
    refine ⟨fun i h hn => ?_, fun os ho hg => ?_⟩
    · have hi : i = 0 := by simp at h; exact h
      subst hi
      have hn' : grpsR true s.data.toList = none := hn
      dsimp only
      rw [hn']; rfl
    · match os, ho with
      | [f], _ =>
        have h0 := hg 0 (by simp) (by simp)
        have h0' : grpsR true s.data.toList = some f := h0
        dsimp only
        rw [h0']; rfl
  · have e1 : (s.extract 0 c).data.toList = s.data.toList.take c := by rw [ext_mk, data_mkB, List.drop_zero]
    have e2 : (s.extract (c + 2) s.size).data.toList = s.data.toList.drop (c + 2) := by rw [ext_mk, data_mkB, List.take_of_length_le (by rw [size_data]; exact Nat.le_refl _)]
    rw [hc, hp]
    dsimp only
    refine ⟨fun i h hn => ?_, fun os ho hg => ?_⟩
    · have hi : i = 0 ∨ i = 1 := by simp at h; omega
      rcases hi with rfl | rfl
      · have hn' : grpsR false (s.extract 0 c).data.toList = none := hn
        rw [e1] at hn'
        rw [hn']; rfl
      · have hn' : grpsR true (s.extract (c + 2) s.size).data.toList = none := hn
        rw [e2] at hn'
        rw [hn']
        cases grpsR false (s.data.toList.take c) <;> rfl
    · match os, ho with
      | [f, b], _ =>
        have h0 : grpsR false (s.extract 0 c).data.toList = some f := hg 0 (by simp) (by simp)
        have h1 : grpsR true (s.extract (c + 2) s.size).data.toList = some b := hg 1 (by simp) (by simp)
        rw [e1] at h0; rw [e2] at h1
        rw [h0, h1]; rfl
end Go.Proofs.YtmfdnbjmfgljlaaGreatDoor


/-
  The document's reading of an address: the walk.
-/




namespace Go.Proofs.YtmfdnbjmfgljlaaGreatDoor

open Go.Den Go.RowKit

set_option maxRecDepth 100000

set_option linter.unusedSectionVars false

def vrp (s : ByteArray) : Value := .tuple ⟨[adr (paB s) (paL s), .bool (paK s)]⟩
def cA (v : Bool) (l : List UInt8) : Array Value := ⟨.bool v :: l.map u8⟩
theorem cA_get (v : Bool) {l : List UInt8} {k : Nat} (h : k < l.length) : (cA v l)[1 + k]? = some (u8 l[k]) := by
  unfold cA
  rw [← Array.getElem?_toList]
  show (Value.bool v :: l.map u8)[1 + k]? = _
  rw [Nat.add_comm, List.getElem?_cons_succ, List.getElem?_map, List.getElem?_eq_getElem h]; rfl
theorem cA_set (v : Bool) (l : List UInt8) (k : Nat) (x : UInt8) : (cA v l).setIfInBounds (1 + k) (.int .u8 (x.toNat : Int)) = cA v (l.set k x) := by
  unfold cA
  rw [List.setIfInBounds_toArray, Nat.add_comm, List.set_cons_succ, List.map_set]
theorem cA_flag (l : List UInt8) : (cA false l).setIfInBounds 0 (.bool true) = cA true l := by
  unfold cA
  rw [List.setIfInBounds_toArray, List.set_cons_zero]
theorem splice_set {l B : List UInt8} {off i : Nat} (hi : i < B.length) (h : off + B.length ≤ l.length) : (splice l off (B.take i)).set (off + i) B[i] = splice l off (B.take (i + 1)) := by
  unfold splice
  have h1 : (B.take i).length = i := by rw [List.length_take]; omega
  have h2 : (B.take (i + 1)).length = i + 1 := by rw [List.length_take]; omega
  have h3 : (l.take off ++ B.take i).length = off + i := by rw [List.length_append, List.length_take, h1]; omega
  rw [h1, h2, ← List.append_assoc, List.set_append_right (off + i) B[i] (by omega), h3, Nat.sub_self, List.drop_eq_getElem_cons (by omega), List.set_cons_zero, List.take_succ_eq_append_getElem hi, List.append_assoc, List.append_assoc]
  rfl
theorem splice_len {l B : List UInt8} {off : Nat} (h : off + B.length ≤ l.length) : (splice l off B).length = l.length := length_splice l off B h
theorem splice_zero (l : List UInt8) (off : Nat) : splice l off [] = l := by
  unfold splice; rw [List.nil_append, List.length_nil, Nat.add_zero, List.take_append_drop]
/-- A part's bytes, in the memory. -/
def OutR (base : Nat) (wr : World) (v : Value) (o : List UInt8) : Prop := ∃ p cap, v = .slice p o.length cap ∧ (0 < o.length → ∃ g cur, p = some ⟨g, 0, none⟩ ∧ base ≤ g ∧ Blk wr g cur 5 ∧ ∀ (k : Nat) (c : UInt8), o[k]? = some c → cur[k]? = some (.int .u8 (c.toNat : Int)))
theorem OutR.of {wr : World} {base : Nat} {v : Value} {o : List UInt8} (h : wr.ownsRow base 5 1 v o.length (o.map u8)) : OutR base wr v o := by
  obtain ⟨p, cap, rfl, hp⟩ := own_parts (by rw [List.length_map]) h
  refine ⟨p, cap, rfl, fun h0 => ?_⟩
  obtain ⟨g, cur, rfl, h1, h2, h3⟩ := hp h0
  exact ⟨g, cur, rfl, h1, h2, fun k c hk => h3 k _ (by rw [List.getElem?_map, hk]; rfl)⟩
theorem own_mono {w : World} {base base2 : Nat} {e : TypeId} {size n : Nat} {v : Value} {xs : List Value} (hb : base2 ≤ base) (h : w.ownsRow base e size v n xs) : w.ownsRow base2 e size v n xs :=
  ⟨h.1, h.2.imp id fun ⟨g, cap, cur, hv, hg, r⟩ => ⟨g, cap, cur, hv, Nat.le_trans hb hg, r⟩⟩
theorem OutR.move {base : Nat} {w w' : World} {v : Value} {o : List UInt8} (h : OutR base w v o) (hk : ∀ b cs, Blk w b cs 5 → Blk w' b cs 5) : OutR base w' v o := by
  obtain ⟨p, cap, h1, h2⟩ := h
  refine ⟨p, cap, h1, fun h0 => ?_⟩
  obtain ⟨g, cur, e, h3, h4, h5⟩ := h2 h0
  exact ⟨g, cur, e, h3, hk _ _ h4, h5⟩
theorem OutR.keep {base : Nat} {w w' : World} {v : Value} {o : List UInt8} (h : OutR base w v o) (hb : Below w.heap.size w w') : OutR base w' v o := h.move fun _ _ hB => Blk.keep hb hB
def lenS (os : List (List UInt8)) : Nat := (os.map List.length).sum
theorem lenS_snoc (os : List (List UInt8)) (b : List UInt8) : lenS (os ++ [b]) = lenS os + b.length := by
  unfold lenS; simp
def PsR (ps : List ByteArray) (n gP : Nat) (w : World) (t10 t11 t12 : Value) (wr : World) : Prop := ∃ (k : Nat) (os : List (List UInt8)) (vs : List Value), k ≤ n ∧ t12 = .int .i64 (k : Int) ∧ os.length = k ∧ vs.length = k ∧
  (∀ (i : Nat) (p : ByteArray) (o : List UInt8), ps[i]? = some p → os[i]? = some o → grpsR (decide (i + 1 = n)) p.data.toList = some o) ∧
  (∀ (i : Nat) (v : Value) (o : List UInt8), vs[i]? = some v → os[i]? = some o → OutR w.heap.size wr v o) ∧
  t11 = .int .i64 ((lenS os : Nat) : Int) ∧ lenS os ≤ 3000 * k ∧ wr.ownsRow w.heap.size 33 1 t10 k vs ∧
  Blk wr (w.heap.size + 1) (cA false (List.replicate 16 0)) 24 ∧ Blk wr w.heap.size (cA false (List.replicate 16 0)) 24 ∧ Blk wr gP (strs ps) 9 ∧ Below w.heap.size w wr
theorem info_sl : (Tryz.prog.info? 33).map (fun i => (i.zero, i.size, i.bytes)) = some (some (.slice none 0 0), 1, 24) := by kernel_rfl
theorem spl_le {c : UInt8} {l x : List UInt8} (h : x ∈ spl c l) : x.length ≤ l.length := by
  have h1 := spl_sum c _ l (Nat.le_refl _)
  have key : ∀ r : List (List UInt8), x ∈ r → x.length + 1 ≤ (r.map fun x => x.length + 1).sum := by
    intro r
    induction r with
    | nil => intro h; cases h
    | cons y r ih =>
      intro h
      rw [List.map_cons, List.sum_cons]
      rcases List.mem_cons.1 h with rfl | h
      · omega
      · have := ih h; omega
  have := key _ h; omega
theorem spl_num (c : UInt8) (l : List UInt8) : (spl c l).length ≤ l.length + 1 := by
  have h1 := spl_sum c _ l (Nat.le_refl _)
  have key : ∀ r : List (List UInt8), r.length ≤ (r.map fun x => x.length + 1).sum := by
    intro r
    induction r with
    | nil => simp
    | cons x r ih => rw [List.map_cons, List.sum_cons, List.length_cons]; omega
  have := key (spl c l); omega
theorem fin_one {f : List UInt8} (h : f.length = 16) : splice (splice (List.replicate 16 (0 : UInt8)) 0 f) (16 - f.length) f = z16 f [] := by
  have e1 : splice (List.replicate 16 (0 : UInt8)) 0 f = f := by
    unfold splice; rw [List.take_zero, List.nil_append, List.drop_of_length_le (by rw [List.length_replicate]; omega), List.append_nil]
  rw [e1]
  unfold splice z16
  rw [h, List.take_zero, List.nil_append, List.drop_of_length_le (by omega)]; rfl
theorem fin_two {f b : List UInt8} (h : f.length + b.length ≤ 14) : splice (splice (List.replicate 16 (0 : UInt8)) 0 f) (16 - b.length) b = z16 f b := by
  unfold splice z16
  rw [List.take_zero, List.nil_append, Nat.zero_add, List.drop_replicate, List.take_append, List.take_of_length_le (by omega),
    List.take_replicate, List.drop_of_length_le (by rw [List.length_append, List.length_replicate]; omega), List.append_nil, List.append_assoc]
  congr 2
  congr 1
  omega
/-- What the last loops are to do. -/
def GoodR (n : Nat) (w : World) (vs : List Value) (V : Value) (wr : World) : Prop := ∃ (f b : List UInt8) (v0 vl : Value), vs[0]? = some v0 ∧ vs[n - 1]? = some vl ∧ OutR w.heap.size wr v0 f ∧ OutR w.heap.size wr vl b ∧ f.length ≤ 16 ∧ b.length ≤ 16 ∧
  V = .tuple ⟨[.agg ⟨.bool true :: (splice (splice (List.replicate 16 (0 : UInt8)) 0 f) (16 - b.length) b).map u8⟩, .bool true]⟩
theorem two_of {α : Type} : ∀ {l : List α}, l.length = 2 → ∃ a b, l = [a, b]
  | [a, b], _ => ⟨a, b, rfl⟩
theorem good_one {k : Nat} {w wr : World} {os : List (List UInt8)} {vs : List Value} {V : Value} (hk : k = 1) (ho : os.length = k) (hv : vs.length = k) (hs : lenS os = 16) (hov : ∀ (i : Nat) (v : Value) (o : List UInt8), vs[i]? = some v → os[i]? = some o → OutR w.heap.size wr v o)
    (hg : ∀ b, finR os = some b → V = .tuple ⟨[.agg ⟨.bool true :: b.map u8⟩, .bool true]⟩) : GoodR k w vs V wr := by
  subst hk
  obtain ⟨f, rfl⟩ := List.length_eq_one_iff.1 ho
  obtain ⟨v, rfl⟩ := List.length_eq_one_iff.1 hv
  have h16 : f.length = 16 := by simpa [lenS] using hs
  refine ⟨f, f, v, v, rfl, rfl, hov 0 v f rfl rfl, hov 0 v f rfl rfl, by omega, by omega, ?_⟩
  rw [fin_one h16]
  exact hg _ (by show putA false f [] = _; unfold putA; rw [if_neg (by decide), if_pos (by simpa using h16)])
theorem good_two {k : Nat} {w wr : World} {os : List (List UInt8)} {vs : List Value} {V : Value} (hk : k = 2) (ho : os.length = k) (hv : vs.length = k) (hs : lenS os ≤ 14) (hov : ∀ (i : Nat) (v : Value) (o : List UInt8), vs[i]? = some v → os[i]? = some o → OutR w.heap.size wr v o)
    (hg : ∀ b, finR os = some b → V = .tuple ⟨[.agg ⟨.bool true :: b.map u8⟩, .bool true]⟩) : GoodR k w vs V wr := by
  subst hk
  obtain ⟨f, b, rfl⟩ := two_of ho
  obtain ⟨v, u, rfl⟩ := two_of hv
  have h14 : f.length + b.length ≤ 14 := by simpa [lenS] using hs
  refine ⟨f, b, v, u, rfl, rfl, hov 0 v f rfl rfl, hov 1 u b rfl rfl, by omega, by omega, ?_⟩
  rw [fin_two h14]
  exact hg _ (by show putA true f b = _; unfold putA; rw [if_pos rfl, if_pos h14])
theorem bad_one {k : Nat} {os : List (List UInt8)} (hk : k = 1) (ho : os.length = k) (hs : ¬ lenS os = 16) : finR os = none := by
  subst hk
  obtain ⟨f, rfl⟩ := List.length_eq_one_iff.1 ho
  show putA false f [] = none
  unfold putA; rw [if_neg (by decide), if_neg (by simpa [lenS] using hs)]
theorem bad_two {k : Nat} {os : List (List UInt8)} (hk : k = 2) (ho : os.length = k) (hs : ¬ lenS os ≤ 14) : finR os = none := by
  subst hk
  obtain ⟨f, b, rfl⟩ := two_of ho
  show putA true f b = none
  unfold putA; rw [if_pos rfl, if_neg (by simpa [lenS] using hs)]
theorem blk_ne {w : World} {g h : Nat} {c d : Array Value} {S T : TypeId} (hg : Blk w g c S) (hh : Blk w h d T) (hne : S ≠ T) : g ≠ h := fun e => by
  subst e
  unfold Blk at hg hh
  rw [hg] at hh
  cases hh
  exact hne rfl
set_option maxHeartbeats 4000000 in
theorem parse5_walk (s : ByteArray) (hs : s.size ≤ 1000) (w : World) :
    Calls Tryz.prog 16 #[.string s] w fun e w' => e = .returned (vrp s) ∧ Below w.heap.size w w' := by
  have hl : s.data.toList.length = s.size := size_data s
  obtain ⟨V, hV⟩ : ∃ V, vrp s = V := ⟨_, rfl⟩
  have hVn : parR s.data.toList = none → V = .tuple ⟨[.agg (zcs false), .bool false]⟩ := fun h => by
    rw [← hV]; unfold vrp paB paL paK paP; rw [par_same, h]; rfl
  have hVs : ∀ v b, parR s.data.toList = some (v, b) → V = .tuple ⟨[.agg ⟨.bool v :: b.map u8⟩, .bool true]⟩ := fun v b h => by
    have h16 : b.length = 16 := parA_len (p := (v, b)) (by rw [par_same]; exact h)
    rw [← hV, ← adr_cells v h16]; unfold vrp paB paL paK paP; rw [par_same, h]; rfl
  rw [hV]
  have HVN := Lib.hid hVn; have HVS := Lib.hid hVs
  clear hVn hVs hV
  cases hf : fourL s.data.toList with
  | some b =>
    have h4 := fourL_len hf
    have hfour : ∀ w : World, Calls Tryz.prog 29 #[.string s] w fun e w' => Below w.heap.size w w' ∧ ∃ g cap cur, e = .returned (.slice (some ⟨g, 0, none⟩) 4 cap) ∧ w.heap.size ≤ g ∧ Blk w' g cur 5 ∧ ∀ (k : Nat) (hk : k < b.length), cur[k]? = some (.int .u8 (b[k].toNat : Int)) := fun w => by
      refine (four5_walk s (by omega) w).mono ?_
      rintro e w' ⟨hb, ⟨hn, _⟩ | ⟨b', v, hb', rfl, hown⟩⟩
      · rw [hf] at hn; cases hn
      · rw [hf] at hb'
        obtain rfl := Option.some.inj hb'
        obtain ⟨p, cap, rfl, hp⟩ := own_parts (by rw [List.length_map]) hown
        obtain ⟨g, cur, rfl, h1, h2, h3⟩ := hp (by omega)
        exact ⟨hb, g, cap, cur, by rw [h4], h1, h2, fun k hk => h3 k _ (by rw [List.getElem?_map, List.getElem?_eq_getElem hk]; rfl)⟩
    have hv := HVS.out false (b ++ List.replicate 12 0) (by unfold parR; rw [hf])
    have HFO := Lib.hid hfour; have HV := Lib.hid hv; have HF4 := Lib.hid h4
    clear hfour hv hf h4 HVN HVS
    go_enter Tryz.func16, Tryz.ntmps16
    go_wp2_with (first
      | (refine store_fin rfl _ _ _ rfl rfl (w.heap.size + 1) _ rfl rfl _ _ (Blk.new (by simp)) infoAddr rfl (by kernel_rfl) w (((Below.refl _ w).alloc (Nat.le_refl _) _).alloc (by simp) _) (by omega) ?_; intro w1 hb1 he1 hk1; have hr1 := hk1 w.heap.size _ 24 (by omega) ((Blk.new rfl).old _); have HA1 := Lib.hid hb1; have HE1 := Lib.hid he1; have HR1 := Lib.hid hr1; clear hb1 he1 hk1 hr1)
      | (go_at_call 29; refine (HFO.out _).mono ?_; rintro e w2 ⟨hb2, g, cap, cur, rfl, hg2, hblk2, hcur⟩; have HC := Lib.hid hcur; have HB2 := Lib.hid hblk2; have HA2 := Lib.hid (Blk.keep hb2 HA1.out); have HR2 := Lib.hid (Blk.keep hb2 HR1.out); have HE2 := Lib.hid (keepW HE1.out hb2); have HG := Lib.hid (⟨HA1.out.lt, hg2⟩ : _ ∧ _); clear hcur hblk2 hb2 hg2))
    go_loopw [6] (fun i wr => ∃ k : Nat, k ≤ 4 ∧ i = .int .i64 (k : Int) ∧ Blk wr (w.heap.size + 1) (cA false (splice (List.replicate 16 0) 0 (b.take k))) 24 ∧ Blk wr w.heap.size (cA false (List.replicate 16 0)) 24 ∧ Blk wr g cur 5 ∧ Below w.heap.size w wr) (fun i _ => 4 - natOf i)
    case atStart =>
      exact ⟨0, by omega, rfl, by rw [List.take_zero, splice_zero]; exact HA2.out, HR2.out, HB2.out, HE2.out⟩
    case round =>
      obtain ⟨k, hk, rfl, hA, hR, hB, hE⟩ := hrel
      have h4 := HF4.out
      by_cases hk4 : k < 4
      · have hkb : k < b.length := by omega
        have hcell : wr.cell? ⟨g, k, none⟩ = some (.int .u8 (b[k].toNat : Int)) := by rw [hB.cell k]; exact HC.out k hkb
        have hlen : (splice (List.replicate 16 (0 : UInt8)) 0 (b.take k)).length = 16 := by rw [splice_len (by rw [List.length_take, List.length_replicate]; omega), List.length_replicate]
        obtain ⟨x0, hold⟩ : ∃ x : UInt8, wr.cell? ⟨w.heap.size + 1, 1 + k, none⟩ = some (.int .u8 (x.toNat : Int)) := ⟨_, (hA.cell (1 + k)).trans (cA_get false (k := k) (by omega))⟩
        have hfree := hA.free (1 + k)
        have hA' := hA.put (i := 1 + k) (.int .u8 (b[k].toNat : Int))
        have hss := splice_set (l := List.replicate 16 (0 : UInt8)) (off := 0) hkb (by rw [List.length_replicate]; omega)
        rw [Nat.zero_add] at hss
        rw [cA_set, hss] at hA'
        have HA' := Lib.hid hA'
        have HR' := Lib.hid (hR.else (a := ⟨w.heap.size + 1, 1 + k, none⟩) (.int .u8 (b[k].toNat : Int)) (by simp))
        have HB' := Lib.hid (hB.else (a := ⟨w.heap.size + 1, 1 + k, none⟩) (.int .u8 (b[k].toNat : Int)) (by have := HG.out; simp; omega))
        have HE' := Lib.hid (hE.setCell (p := ⟨w.heap.size + 1, 1 + k, none⟩) (by simp) (.int .u8 (b[k].toNat : Int)))
        clear hA hR hB hE hA' hss h4 hlen
        generalize b[k] = c at *
        go_wp2
        go_roundw
        case rel => exact ⟨k + 1, by omega, by go_num, HA'.out, HR'.out, HB'.out, HE'.out⟩
        case measure => simp [natOf]; omega
      · have hk4' : k = 4 := by omega
        have hll : splice (List.replicate 16 (0 : UInt8)) 0 (b.take k) = b ++ List.replicate 12 0 := by
          rw [List.take_of_length_le (by omega)]
          unfold splice
          rw [List.take_zero, List.nil_append, List.drop_replicate, h4]
        rw [hll] at hA
        obtain ⟨LC, hLC, hLl, hL1, hLV⟩ : ∃ LC : List Value, Value.bool false :: (b ++ List.replicate 12 (0 : UInt8)).map _root_.Go.Proofs.YtmfdnbjmfgljlaaGreatDoor.u8 = LC ∧ LC.length = 17 ∧ LC.toArray.all (·.oneCell') = true ∧ V = .tuple ⟨[.agg LC.toArray, .bool true]⟩ :=
          ⟨_, rfl, by rw [List.length_cons, List.length_map]; exact congrArg (· + 1) (by rw [List.length_append, h4]; rfl), all_oneCell_toArray (fun v hv => by rcases List.mem_cons.1 hv with rfl | hv; rfl; exact one_u8 _ v hv), HV.out⟩
        have hAX : Blk wr (w.heap.size + 1) LC.toArray 24 := by rw [← hLC]; exact hA
        have hRX : Blk wr w.heap.size (cA false (List.replicate 16 0)) 24 := hR
        have hEX : Below w.heap.size w wr := hE
        have hi17 : (Tryz.prog.info? 24).map (·.size) = some LC.length := by rw [infoAddr, hLl]
        have hi17' : (Tryz.prog.info? 24).map (·.size) = some LC.toArray.size := by rw [infoAddr, List.size_toArray, hLl]
        have hold : ∀ n : Nat, n = 17 → n = LC.toArray.size := fun n h => by rw [List.size_toArray, hLl, h]
        have HV := Lib.hid hLV; have HAX := Lib.hid hAX; have HRX := Lib.hid hRX; have HEX := Lib.hid hEX; have HL1 := Lib.hid hL1; have HI := Lib.hid hi17; have HI' := Lib.hid hi17'; have HO := Lib.hid hold
        clear hLC hLV hAX hRX hEX hLl hL1 hi17 hi17' hold
        clear hA hR hB hE hll h4
        go_wp2_with (first
          | (refine load_mid_w rfl _ _ rfl (w.heap.size + 1) 0 rfl LC _ (Blk.range (cs := LC.toArray) HAX.out) Tryz.underlying24 rfl HI.out ?_)
          | (refine store_fin rfl _ _ _ rfl rfl w.heap.size LC.toArray rfl rfl _ _ HRX.out HI'.out (HO.out _ rfl) HL1.out w HEX.out (Nat.le_refl _) ?_; intro w8 hb8 he8 _; have HB8 := Lib.hid hb8; have HE8 := Lib.hid he8; clear hb8 he8))
        first
          | refine bodyPost_ret (ret_row rfl _ _ w.heap.size _ _ _ rfl HB8.out Tryz.underlying24 rfl HI'.out) rfl ⟨?_, HE8.out⟩
          | (simp only [Exit.inBlock, Exit.then]; refine bodyPost_ret (ret_row rfl _ _ w.heap.size _ _ _ rfl HB8.out Tryz.underlying24 rfl HI'.out) rfl ⟨?_, HE8.out⟩)
        rw [HV.out]; rfl
  | none =>
    have hfour : ∀ w : World, Calls Tryz.prog 29 #[.string s] w fun e w' => Below w.heap.size w w' ∧ e = .returned (.slice none 0 0) := fun w => by
      refine (four5_walk s (by omega) w).mono ?_
      rintro e w' ⟨hb, ⟨_, rfl⟩ | ⟨b', v, hb', rfl, hown⟩⟩
      · exact ⟨hb, rfl⟩
      · rw [hf] at hb'; cases hb'
    obtain ⟨hbad, hgood⟩ := par_prts s hf
    have hbad' : ∀ (i : Nat) (h : i < (prts s).length), grpsR (decide (i + 1 = (prts s).length)) (prts s)[i].data.toList = none → V = .tuple ⟨[.agg (zcs false), .bool false]⟩ := fun i h hn => HVN.out (hbad i h hn)
    have hgood' : ∀ os : List (List UInt8), os.length = (prts s).length → (∀ (i : Nat) (h : i < (prts s).length) (h' : i < os.length), grpsR (decide (i + 1 = (prts s).length)) (prts s)[i].data.toList = some os[i]) →
        (finR os = none → V = .tuple ⟨[.agg (zcs false), .bool false]⟩) ∧ ∀ b, finR os = some b → V = .tuple ⟨[.agg ⟨.bool true :: b.map u8⟩, .bool true]⟩ := fun os h1 h2 => by
      have h3 := hgood os h1 h2
      refine ⟨fun hn => HVN.out (by rw [h3, hn]; rfl), fun b hb => HVS.out true b (by rw [h3, hb]; rfl)⟩
    have hpl := prts_len s
    have HFO := Lib.hid hfour; have HBAD := Lib.hid hbad'; have HGOOD := Lib.hid hgood'; have HPL := Lib.hid hpl
    clear hfour hbad hgood hbad' hgood' hpl hf HVN HVS
    go_enter Tryz.func16, Tryz.ntmps16
    go_upto_block 2 with (first
      | (refine store_fin rfl _ _ _ rfl rfl (w.heap.size + 1) _ rfl rfl _ _ (Blk.new (by simp)) infoAddr rfl (by kernel_rfl) w (((Below.refl _ w).alloc (Nat.le_refl _) _).alloc (by simp) _) (by omega) ?_; intro w1 hb1 he1 hk1; have hr1 := hk1 w.heap.size _ 24 (by omega) ((Blk.new rfl).old _); have HA1 := Lib.hid hb1; have HE1 := Lib.hid he1; have HR1 := Lib.hid hr1; clear hb1 he1 hk1 hr1)
      | (go_at_call 29; refine (HFO.out _).mono ?_; rintro e w2 ⟨hb2, rfl⟩; have HA2 := Lib.hid (Blk.keep hb2 HA1.out); have HR2 := Lib.hid (Blk.keep hb2 HR1.out); have HE2 := Lib.hid (keepW HE1.out hb2); clear hb2))
    go_cut [7] (fun s7 wx => w2 = wx ∧ ∃ ci : Int, s7 = .int .i64 ci ∧ ((ci = -1 ∧ prts s = [s]) ∨ ∃ c : Nat, ci = (c : Int) ∧ c + 2 ≤ s.size ∧ prts s = [s.extract 0 c, s.extract (c + 2) s.size]))
    case first =>
      go_wp2
      go_loopw [7, 8] (fun t i wr => w2 = wr ∧ ∃ j : Nat, j ≤ s.size ∧ i = .int .i64 (j : Int) ∧ ((t = .int .i64 (-1) ∧ CutAt s.data.toList j) ∨ ∃ c : Nat, t = .int .i64 (c : Int) ∧ c + 2 ≤ s.size ∧ prts s = [s.extract 0 c, s.extract (c + 2) s.size])) (fun _ i _ => s.size + 1 - natOf i)
      case atStart => exact ⟨rfl, 0, Nat.zero_le _, rfl, .inl ⟨rfl, cutAt_zero _⟩⟩
      case round =>
        obtain ⟨rfl, j, hj, rfl, ⟨rfl, hcut⟩ | ⟨c, rfl, hc2, hpc⟩⟩ := hrel
        · by_cases hlt : j + 1 < s.size
          · have h1 : j < s.size := by omega
            have hll : j < s.data.toList.length := by omega
            have hg0 : s.data.toList[j]'hll = s[j]'h1 := rfl
            have hg1 : s.data.toList[j + 1]? = some (s[j + 1]'hlt) := List.getElem?_eq_getElem (by omega)
            by_cases ha : s[j]'h1 = 58
            · have hca : ((((s[j]'h1).toNat : Nat) : Int) == 58) = true := by rw [ha]; rfl
              by_cases hb : s[j + 1]'hlt = 58
              · have hcb : ((((s[j + 1]'hlt).toNat : Nat) : Int) == 58) = true := by rw [hb]; rfl
                have hh := cutAt_hit hll ⟨hg0.trans ha, hg1.trans (congrArg some hb)⟩ hcut
                have hps : prts s = [s.extract 0 j, s.extract (j + 2) s.size] := by
                  unfold prts; rw [hh]
                  show [s.extract 0 (s.data.toList.take j).length, s.extract ((s.data.toList.take j).length + 2) s.size] = _
                  rw [List.length_take, Nat.min_eq_left (by omega)]
                have HPS := Lib.hid hps
                clear hh hps hcut hg0 hg1 ha hb
                go_wp2
                go_roundw
                case rel => exact ⟨trivial, j + 1, by omega, by go_num, .inr ⟨j, rfl, by omega, HPS.out⟩⟩
                case measure => simp [natOf]; omega
              · have hcb : ((((s[j + 1]'hlt).toNat : Nat) : Int) == 58) = false := by
                  rw [beq_eq_false_iff_ne]; exact fun e => hb (u8_eq (by have : (58 : UInt8).toNat = 58 := rfl; omega))
                have hn := cutAt_step hll (fun h => hb (Option.some.inj (hg1.symm.trans h.2))) hcut
                have HN := Lib.hid hn
                clear hn hcut hg0 hg1 ha hb
                go_wp2
                go_roundw
                case rel => exact ⟨trivial, j + 1, by omega, by go_num, .inl ⟨rfl, HN.out⟩⟩
                case measure => simp [natOf]; omega
            · have hca : ((((s[j]'h1).toNat : Nat) : Int) == 58) = false := by
                rw [beq_eq_false_iff_ne]; exact fun e => ha (u8_eq (by have : (58 : UInt8).toNat = 58 := rfl; omega))
              have hn := cutAt_step hll (fun h => ha (hg0.symm.trans h.1)) hcut
              have HN := Lib.hid hn
              clear hn hcut hg0 hg1 ha
              go_wp2
              go_roundw
              case rel => exact ⟨trivial, j + 1, by omega, by go_num, .inl ⟨rfl, HN.out⟩⟩
              case measure => simp [natOf]; omega
          · have hn := cutAt_end (by rw [hl]; omega) hcut
            have hps : prts s = [s] := by unfold prts; rw [hn]
            have HPS := Lib.hid hps
            clear hn hps hcut
            go_wp2
            go_meet
            case rel => exact ⟨rfl, -1, rfl, .inl ⟨rfl, HPS.out⟩⟩
        · have HPC := Lib.hid hpc
          clear hpc
          by_cases hlt : j + 1 < s.size
          · go_wp2
            go_meet
            case rel => exact ⟨rfl, c, rfl, .inr ⟨c, rfl, hc2, HPC.out⟩⟩
          · go_wp2
            go_meet
            case rel => exact ⟨rfl, c, rfl, .inr ⟨c, rfl, hc2, HPC.out⟩⟩
    case rest =>
      obtain ⟨rfl, ci, rfl, hci⟩ := hcut
      have HCI := Lib.hid hci
      clear hci
      go_upto_if 64 with fail
      go_cut [9] (fun s9 wx => ∃ (gP : Nat) (ps : List ByteArray), prts s = ps ∧ s9 = .slice (some ⟨gP, 0, none⟩) ps.length ps.length ∧ w2.heap.size ≤ gP ∧ Blk wx gP (strs ps) 9 ∧ Below w2.heap.size w2 wx)
      case first =>
        rcases HCI.out with ⟨hci, hps⟩ | ⟨c, hci, hc2, hps⟩
        · have HPS := Lib.hid hps
          have hlt : ci < 0 := by omega
          clear hps hci
          go_wp2
          go_meet
          case rel => exact ⟨w2.heap.size, [s], HPS.out, rfl, Nat.le_refl _, Blk.new rfl, (Below.refl _ w2).alloc (Nat.le_refl _) _⟩
        · have HPS := Lib.hid hps
          have hlt : ¬ ci < 0 := by omega
          have hle : ci + 2 ≤ (s.size : Int) := by omega
          subst hci
          clear hps
          go_wp2
          go_region
          go_wp2_with fail
          go_meet
          case rel => exact ⟨w2.heap.size + 1, [s.extract 0 c, s.extract (c + 2) s.size], HPS.out, rfl, by omega, (Blk.new (by simp)).drew, (((Below.refl _ w2).alloc (Nat.le_refl _) _).alloc (by simp) _).trans ⟨rfl, rfl, rfl, Nat.le_refl _, fun _ _ => rfl⟩⟩
      case rest =>
        obtain ⟨gP, ps, hps, rfl, hgP, hbP, hbel⟩ := hcut
        have hn12 : ps.length = 1 ∨ ps.length = 2 := by
          rw [← hps]; rcases HPL.out with ⟨h, _⟩ | ⟨c, _, h, _⟩ <;> omega
        have hps1 : ∀ p ∈ ps, p.size ≤ 1000 := by
          rw [← hps]
          intro p hp
          rcases HPL.out with ⟨_, _, h⟩ | ⟨c, h0, _, _, h⟩
          · rw [h, List.mem_singleton] at hp; subst hp; exact hs
          · rw [h] at hp
            rcases List.mem_cons.1 hp with rfl | hp
            · rw [ByteArray.size_extract]; omega
            · rw [List.mem_singleton] at hp; subst hp; rw [ByteArray.size_extract]; omega
        have hcl : (ci < 0 ∧ ps.length = 1) ∨ (¬ ci < 0 ∧ ps.length = 2) := by
          rcases HCI.out with ⟨hc, h⟩ | ⟨c, hc, _, h⟩
          · left; rw [← hps, h]; exact ⟨by omega, rfl⟩
          · right; rw [← hps, h]; exact ⟨by omega, rfl⟩
        obtain ⟨n, hn⟩ : ∃ n, ps.length = n := ⟨_, rfl⟩
        have hbad : ∀ (i : Nat) (p : ByteArray), ps[i]? = some p → grpsR (decide (i + 1 = n)) p.data.toList = none → V = .tuple ⟨[.agg (zcs false), .bool false]⟩ := by
          intro i p hp
          have h := HBAD.out
          rw [hps] at h
          subst hn
          obtain ⟨h1, rfl⟩ := List.getElem?_eq_some_iff.1 hp
          exact h i h1
        have hgood : ∀ os : List (List UInt8), os.length = n → (∀ (i : Nat) (p : ByteArray) (o : List UInt8), ps[i]? = some p → os[i]? = some o → grpsR (decide (i + 1 = n)) p.data.toList = some o) →
            (finR os = none → V = .tuple ⟨[.agg (zcs false), .bool false]⟩) ∧ ∀ b, finR os = some b → V = .tuple ⟨[.agg ⟨.bool true :: b.map _root_.Go.Proofs.YtmfdnbjmfgljlaaGreatDoor.u8⟩, .bool true]⟩ := by
          intro os ho hg
          have h := HGOOD.out
          rw [hps] at h
          subst hn
          exact h os ho fun i h1 h2 => hg i _ _ (List.getElem?_eq_getElem h1) (List.getElem?_eq_getElem h2)
        rw [hn] at hn12 hcl
        rw [hn]
        clear HBAD HGOOD HPL HCI
        have HBAD := Lib.hid hbad; have HGOOD := Lib.hid hgood; have HN := Lib.hid hn; have HCL := Lib.hid hcl; have HP1 := Lib.hid hps1
        have HA3 := Lib.hid (Blk.keep hbel HA2.out); have HR3 := Lib.hid (Blk.keep hbel HR2.out); have HE3 := Lib.hid (keepW HE2.out hbel); have HP3 := Lib.hid hbP
        have hn2 : n ≤ 2 := by omega
        have HN12 := Lib.hid hn12
        clear hbad hgood hn hcl hps1 hbel hbP hn12 hps HA2 HR2 HE2 HA1 HR1 HE1
        obtain ⟨i1, hi1, hy0, hy1, hy2⟩ := info_parts info_sl
        obtain ⟨i0, hi0, hz0, hz1, hz2⟩ := info_parts info_u8
        have HI1 := Lib.hid hi1; have HI0 := Lib.hid hi0
        clear hi1 hi0
        go_wp2
        go_loopw [10, 11, 12] (fun t10 t11 t12 wr => PsR ps n gP w t10 t11 t12 wr) (fun _ _ i _ => n - natOf i)
        case atStart =>
          exact ⟨0, [], [], Nat.zero_le _, rfl, rfl, rfl, fun i p o _ h => by simp at h, fun i v o h => by simp at h, rfl, by simp [lenS], World.ownsRow_nil _ _ _ _, HA3.out, HR3.out, HP3.out, HE3.out⟩
        case round =>
          obtain ⟨k, os, vs, hk, rfl, hol, hvl, hg, hov, rfl, hsum, hown, hA, hR, hP, hE⟩ := hrel
          obtain ⟨wo, rfl⟩ : ∃ wo : World, wo = wr := ⟨_, rfl⟩
          by_cases hkn : k < n
          · obtain ⟨p, hp⟩ : ∃ p, ps[k]? = some p := ⟨_, List.getElem?_eq_getElem (by have := HN.out; omega)⟩
            have hpsz : p.size ≤ 1000 := HP1.out p (List.mem_of_getElem? hp)
            have hcell : wo.cell? ⟨gP, k, none⟩ = some (.string p) := by
              rw [hP.cell k]; unfold strs; rw [← Array.getElem?_toList, List.getElem?_map, hp]; rfl
            have hbadk := HBAD.out k p hp
            have hsp := split5_walk p (by omega) 58 wo
            have hne := spl_ne 58 p.data.toList
            have hxl : ∀ x ∈ spl 58 p.data.toList, (mkB x).size ≤ 1000 := fun x hx => by
              rw [size_mkB]; have := spl_le hx; rw [size_data] at this; omega
            have hrl := spl_num 58 p.data.toList
            rw [size_data] at hrl
            obtain ⟨G, hG⟩ : ∃ G, grpsR (decide (k + 1 = n)) p.data.toList = G := ⟨_, rfl⟩
            have hG0 : p.size = 0 → G = some [] := fun h0 => by
              rw [← hG]; unfold grpsR; rw [if_pos (List.length_eq_zero_iff.1 (by rw [size_data]; exact h0))]
            have hG1 : ¬ p.size = 0 → G = refM (decide (k + 1 = n)) (spl 58 p.data.toList) := fun h0 => by
              rw [← hG]; unfold grpsR; rw [if_neg (fun h => h0 (by rw [← size_data, h]; rfl))]
            have hgk : ∀ b, G = some b → ∀ (i : Nat) (q : ByteArray) (o : List UInt8), ps[i]? = some q → (os ++ [b])[i]? = some o → grpsR (decide (i + 1 = n)) q.data.toList = some o := by
              intro b hb i q o hq ho
              by_cases hi : i < os.length
              · rw [List.getElem?_append_left hi] at ho
                exact hg i q o hq ho
              · rw [List.getElem?_append_right (by omega)] at ho
                have hi2 : i = k := by
                  have := (List.getElem?_eq_some_iff.1 ho).1
                  simp at this; omega
                subst hi2
                rw [hq] at hp
                obtain rfl := Option.some.inj hp
                rw [hol, Nat.sub_self] at ho
                obtain rfl : b = o := by simpa using ho
                rw [hG]; exact hb
            rw [hG] at hbadk
            obtain ⟨last, hlast⟩ : ∃ last : Bool, decide (k + 1 = n) = last := ⟨_, rfl⟩
            rw [hlast] at hG1
            have hkl : (((k : Nat) : Int) == (n : Int) - 1) = last := by
              rw [← hlast, Bool.eq_iff_iff, beq_iff_eq, decide_eq_true_eq]; omega
            generalize spl 58 p.data.toList = r at *
            have h58 : (58 : UInt8).toNat = 58 := rfl
            rw [h58] at hsp
            have HSP := Lib.hid hsp; have HBK := Lib.hid hbadk; have HXL := Lib.hid hxl; have HG0 := Lib.hid hG0; have HG1 := Lib.hid hG1; have HGK := Lib.hid hgk; have HOV := Lib.hid hov; have HOW := Lib.hid hown
            have HA4 := Lib.hid hA; have HR4 := Lib.hid hR; have HP4 := Lib.hid hP; have HE4 := Lib.hid hE; have HKL := Lib.hid hkl; have HOL := Lib.hid hol; have HVL := Lib.hid hvl
            clear hsp hbadk hxl hG0 hG1 hG hgk hov hown hA hR hP hE hlast hg hp hkl hol hvl h58
            go_upto_block 6 with (go_at_call 30; refine HSP.out.mono ?_; rintro e ws ⟨hbs, v1, rfl, hown1⟩; obtain ⟨g, cap, cur, rfl, hbg, hblk1, hcells⟩ := own_strs hne hown1; have HBS := Lib.hid hbs; have HBL := Lib.hid hblk1; have HCE := Lib.hid hcells; clear hbs hown1 hbg hblk1 hcells)
            go_cut [13] (fun s13 wx => ∃ b : List UInt8, G = some b ∧ b.length ≤ 2100 ∧ OutR w.heap.size wx s13 b ∧ Below ws.heap.size ws wx)
            case first =>
              have hck := (HP4.out.cell k).symm.trans hcell
              have hwle : w.heap.size ≤ ws.heap.size := Nat.le_trans HE4.out.size HBS.out.size
              have HCK := Lib.hid hck
              clear hck hcell
              go_wp2
              go_loopw [13, 15] (fun t13 t15 wr => ∃ (i : Nat) (b : List UInt8), t15 = .int .i64 (i : Int) ∧ GrR last r i b ∧ (p.size = 0 → i = 0 ∧ b = []) ∧ wr.ownsRow ws.heap.size 5 1 t13 b.length (b.map _root_.Go.Proofs.YtmfdnbjmfgljlaaGreatDoor.u8) ∧ Below ws.heap.size ws wr) (fun _ i _ => r.length - natOf i)
              case atStart => exact ⟨0, [], rfl, gr_zero last hne, fun _ => ⟨rfl, rfl⟩, World.ownsRow_nil _ _ _ _, Below.refl _ _⟩
              case round =>
                obtain ⟨i, b, rfl, hgr, h00, hown, hbel⟩ := hrel
                have hbl := gr_len hgr
                have hcell6 := ((Blk.keep hbel (Blk.keep HBS.out HP4.out)).cell k).trans HCK.out
                by_cases h0 : p.size = 0
                · obtain ⟨rfl, rfl⟩ := h00 h0
                  have hge : p.toList.isEmpty = true := by rw [empty_list]; exact decide_eq_true h0
                  have hge2 : p.toList = [] := List.isEmpty_iff.1 hge
                  have hr0 : 0 < r.length := List.length_pos_iff.2 hne
                  have HF := Lib.hid (HG0.out h0); have HO := Lib.hid hown; have HE := Lib.hid hbel
                  clear hgr h00 hown hbel h0
                  go_wp2
                  go_meet
                  case rel => exact ⟨[], HF.out, by simp, OutR.of (own_mono hwle HO.out), HE.out⟩
                · have hge : p.toList.isEmpty = false := by rw [empty_list]; exact decide_eq_false h0
                  have hge2 : p.toList ≠ [] := fun h => by rw [h] at hge; cases hge
                  have hG := HG1.out h0
                  by_cases hi : i < r.length
                  · obtain ⟨x, hx⟩ : ∃ x, r[i]'hi = x := ⟨_, rfl⟩
                    have hcl : wr.cell? ⟨g, i, none⟩ = some (.string (mkB x)) := by rw [← hx]; exact ((Blk.keep hbel HBL.out).cell i).trans (HCE.out i hi)
                    have hil : (((i : Nat) : Int) == (r.length : Int) - 1) = decide (i + 1 = r.length) := by rw [Bool.eq_iff_iff, beq_iff_eq, decide_eq_true_eq]; omega
                    have htz := HXL.out x (hx ▸ List.getElem_mem hi)
                    have hfx := fun w => four5_walk (mkB x) (by omega) w
                    have hhx := fun w => hex5_walk (mkB x) (by omega) w
                    have htd : (mkB x).data.toList = x := data_mkB x
                    rw [htd] at hfx
                    have hhv : hexR (mkB x) = match hexG x with
                      | some m => (m : Int)
                      | none => -1 := rfl
                    rw [hhv] at hhx
                    have sHex : ∀ m, hexG x = some m → (last = true → i + 1 = r.length → fourL x = none) → GrR last r (i + 1) (b ++ two m) := fun m h1 h2 => gr_hex hi hgr (hx.symm ▸ h1) (hx.symm ▸ h2)
                    have sFour : ∀ c, last = true → i + 1 = r.length → fourL x = some c → GrR last r (i + 1) (b ++ c) := fun c h1 h2 h3 => by
                      subst h1; exact gr_four h2 hgr (hx.symm ▸ h3)
                    have sFail : hexG x = none → (last = true → i + 1 = r.length → fourL x = none) → V = .tuple ⟨[.agg (zcs false), .bool false]⟩ := fun h1 h2 => HBK.out (hG.trans (gr_fail hi hgr (hx.symm ▸ h1) (hx.symm ▸ h2)))
                    obtain ⟨t, ht⟩ : ∃ t, mkB x = t := ⟨_, rfl⟩
                    rw [ht] at hcl hfx hhx
                    have hcx : cur[i]? = some (.string t) := by rw [← ht, ← hx]; exact HCE.out i hi
                    have HCX := Lib.hid hcx
                    clear hcx
                    obtain ⟨li, hli⟩ : ∃ li : Bool, decide (i + 1 = r.length) = li := ⟨_, rfl⟩
                    rw [hli] at hil
                    have hkl := HKL.out
                    have HFX := Lib.hid hfx; have HHX := Lib.hid hhx; have HSH := Lib.hid sHex; have HS4 := Lib.hid sFour; have HSF := Lib.hid sFail; have HO := Lib.hid hown; have HE := Lib.hid hbel
                    clear hfx hhx sHex sFour sFail hx ht hhv htd hG hgr h00 hown hbel
                    go_upto_region 28 with fail
                    go_cut [117] (fun s117 wx => ∃ b4 : Bool, s117 = .bool b4 ∧ Below wr.heap.size wr wx ∧ (b4 = true → last = true ∧ i + 1 = r.length ∧ ∃ c, fourL x = some c) ∧ (b4 = false → last = true → i + 1 = r.length → fourL x = none))
                    case first =>
                      cases last with
                      | false =>
                        go_wp2
                        go_meet
                        case rel => exact ⟨false, rfl, Below.refl _ _, (by simp), (by simp)⟩
                      | true =>
                        cases li with
                        | false =>
                          have hne2 : ¬ i + 1 = r.length := of_decide_eq_false hli
                          go_wp2
                          go_meet
                          case rel => exact ⟨false, rfl, Below.refl _ _, (by simp), (fun _ _ h => absurd h hne2)⟩
                        | true =>
                          have heq2 : i + 1 = r.length := of_decide_eq_true hli
                          have HEQ := Lib.hid heq2
                          clear heq2 hli
                          cases hf4 : fourL x with
                          | none =>
                            have hff : ∀ w : World, Calls Tryz.prog 29 #[.string t] w fun e w' => Below w.heap.size w w' ∧ e = .returned (.slice none 0 0) := fun w => by
                              refine (HFX.out w).mono ?_
                              rintro e w' ⟨hb, ⟨_, rfl⟩ | ⟨b', v, hb', rfl, hown⟩⟩
                              · exact ⟨hb, rfl⟩
                              · rw [hf4] at hb'; cases hb'
                            have HFF := Lib.hid hff; have HN4 := Lib.hid hf4
                            clear hff hf4
                            go_wp2_with (go_at_call 29; refine (HFF.out _).mono ?_; rintro e w5 ⟨hb5, rfl⟩)
                            go_meet
                            case rel => exact ⟨false, rfl, hb5, (by simp), (fun _ _ _ => HN4.out)⟩
                          | some c =>
                            have hff : ∀ w : World, Calls Tryz.prog 29 #[.string t] w fun e w' => Below w.heap.size w w' ∧ ∃ g cap, e = .returned (.slice (some ⟨g, 0, none⟩) 4 cap) := fun w => by
                              refine (HFX.out w).mono ?_
                              rintro e w' ⟨hb, ⟨hn, _⟩ | ⟨b', v, hb', rfl, hown⟩⟩
                              · rw [hf4] at hn; cases hn
                              · have h4 := fourL_len hb'
                                obtain ⟨p, cap, rfl, hp⟩ := own_parts (by rw [List.length_map]) hown
                                obtain ⟨g, cur, rfl, _⟩ := hp (by omega)
                                rw [h4]
                                exact ⟨hb, g, cap, rfl⟩
                            have HFF := Lib.hid hff; have HN4 := Lib.hid hf4
                            clear hff hf4
                            go_wp2_with (go_at_call 29; refine (HFF.out _).mono ?_; rintro e w5 ⟨hb5, g5, cap5, rfl⟩)
                            go_meet
                            case rel => exact ⟨true, rfl, hb5, (fun _ => ⟨by first | exact rfl | exact trivial, HEQ.out, c, HN4.out⟩), (by simp)⟩
                    case rest =>
                      obtain ⟨b4, rfl, hb6, h4t, h4f⟩ := hcut
                      obtain ⟨wx, rfl⟩ : ∃ wx, wx = wc := ⟨_, rfl⟩
                      have hE6 := keepW HE.out hb6
                      have hcl6 : wx.cell? ⟨g, i, none⟩ = some (.string t) := ((Blk.keep hE6 HBL.out).cell i).trans HCX.out
                      have HO6 := Lib.hid (own_keep hb6 HO.out); have HE6 := Lib.hid hE6
                      clear hb6 hE6 hcl hcell6 HO HE
                      cases b4 with
                      | true =>
                        obtain ⟨hl1, he1, c, hc4⟩ := h4t rfl
                        have hc4l := fourL_len hc4
                        have hff : ∀ w : World, Calls Tryz.prog 29 #[.string t] w fun e w' => Below w.heap.size w w' ∧ ∃ g cap cur, e = .returned (.slice (some ⟨g, 0, none⟩) 4 cap) ∧ Blk w' g cur 5 ∧ ∀ (j : Nat) (u : Value), (c.map _root_.Go.Proofs.YtmfdnbjmfgljlaaGreatDoor.u8)[j]? = some u → cur[j]? = some u := fun w => by
                          refine (HFX.out w).mono ?_
                          rintro e w' ⟨hb, ⟨hn, _⟩ | ⟨b', v, hb', rfl, hown⟩⟩
                          · rw [hc4] at hn; cases hn
                          · rw [hc4] at hb'
                            obtain rfl := Option.some.inj hb'
                            obtain ⟨p, cap, rfl, hp⟩ := own_parts (by rw [List.length_map]) hown
                            obtain ⟨g, cur, rfl, _, h2, h3⟩ := hp (by omega)
                            exact ⟨hb, g, cap, cur, by rw [hc4l], h2, h3⟩
                        have HGR := Lib.hid (HS4.out c hl1 he1 hc4); have HFF := Lib.hid hff; have HC4 := Lib.hid hc4l
                        clear hl1 he1 hc4 hff h4t h4f hc4l
                        go_wp2_with (first
                          | (go_at_call 29; refine (HFF.out _).mono ?_; rintro e w7 ⟨hb7, g5, cap5, cur5, rfl, hblk5, hcs5⟩; have own7 := own_keep hb7 HO6.out; have HE7 := Lib.hid (keepW HE6.out hb7); have HB5 := Lib.hid hblk5; have HC5 := Lib.hid hcs5; clear hblk5 hcs5)
                          | (at_builtin; go_loud (refine wpList_append_own _ rfl _ _ 33 rfl ws.heap.size 5 i0 (.int .u8 0) 1 1 Tryz.underlying33 HI0.out hz0 hz1 hz2 rfl (by decide) _ _ _ rfl own7 ⟨g5, 0, none⟩ 4 cap5 (c.map _root_.Go.Proofs.YtmfdnbjmfgljlaaGreatDoor.u8) rfl ?c0 ?c1 ?c2 ?c3 ?c4 ?c5 ?_)))
                        case c0 => rw [List.length_map, HC4.out]
                        case c1 => intro j u hj; rw [Addr.add_mid, Nat.zero_add, HB5.out.cell]; exact HC5.out j u hj
                        case c2 => exact one_u8 c
                        case c3 => unfold maxLen; omega
                        case c4 => omega
                        case c5 => exact HE7.out.size
                        intro v' w8 own8 grow8 _
                        rw [← List.map_append, ← HC4.out, ← List.length_append] at own8
                        have HQ := Lib.hid (⟨i + 1, b ++ c, rfl, HGR.out, fun h => absurd h h0, own8, HE7.out.grown grow8 HE7.out.size (fun q hq => (own7.lt q hq).1)⟩ : ∃ (i2 : Nat) (b2 : List UInt8), Value.int .i64 (((i + 1 : Nat)) : Int) = .int .i64 (i2 : Int) ∧ GrR last r i2 b2 ∧ (p.size = 0 → i2 = 0 ∧ b2 = []) ∧ w8.ownsRow ws.heap.size 5 1 v' b2.length (b2.map _root_.Go.Proofs.YtmfdnbjmfgljlaaGreatDoor.u8) ∧ Below ws.heap.size ws w8)
                        clear own8 grow8 own7
                        go_wp2
                        exact ⟨HQ.out, by simp only [natOf]; omega⟩
                      | false =>
                        have h4n := h4f rfl
                        cases hxg : hexG x with
                        | none =>
                          have hvf := HSF.out hxg h4n
                          have hh := HHX.out
                          rw [hxg] at hh
                          dsimp only at hh
                          have HH := Lib.hid hh; have HVF := Lib.hid hvf
                          clear hh hvf hxg h4n h4t h4f
                          go_upto_if 131 with (go_at_call 31; refine (HH.out _).mono ?_; rintro e w7 ⟨rfl, rfl⟩)
                          obtain ⟨LC, hLC, hLl, hL1, hLV⟩ : ∃ LC : List Value, Value.bool false :: (List.replicate 16 (0 : UInt8)).map _root_.Go.Proofs.YtmfdnbjmfgljlaaGreatDoor.u8 = LC ∧ LC.length = 17 ∧ LC.toArray.all (·.oneCell') = true ∧ V = .tuple ⟨[.agg LC.toArray, .bool false]⟩ :=
                            ⟨_, rfl, by rw [List.length_cons, List.length_map]; exact congrArg (· + 1) List.length_replicate, all_oneCell_toArray (fun v hv => by rcases List.mem_cons.1 hv with rfl | hv; rfl; exact one_u8 _ v hv), HVF.out⟩
                          have hAX : Blk w7 (w.heap.size + 1) LC.toArray 24 := by rw [← hLC]; exact Blk.keep HE6.out (Blk.keep HBS.out HA4.out)
                          have hRX : Blk w7 w.heap.size (cA false (List.replicate 16 0)) 24 := Blk.keep HE6.out (Blk.keep HBS.out HR4.out)
                          have hEX : Below w.heap.size w w7 := keepW HE4.out (keepW HBS.out HE6.out)
                          have hi17 : (Tryz.prog.info? 24).map (·.size) = some LC.length := by rw [infoAddr, hLl]
                          have hi17' : (Tryz.prog.info? 24).map (·.size) = some LC.toArray.size := by rw [infoAddr, List.size_toArray, hLl]
                          have hold : ∀ n : Nat, n = 17 → n = LC.toArray.size := fun n h => by rw [List.size_toArray, hLl, h]
                          have HV := Lib.hid hLV; have HAX := Lib.hid hAX; have HRX := Lib.hid hRX; have HEX := Lib.hid hEX; have HL1 := Lib.hid hL1; have HI := Lib.hid hi17; have HI' := Lib.hid hi17'; have HO := Lib.hid hold
                          clear hLC hLV hAX hRX hEX hLl hL1 hi17 hi17' hold
                          skip
                          go_wp2_with (first
                            | (refine load_mid_w rfl _ _ rfl (w.heap.size + 1) 0 rfl LC _ (Blk.range (cs := LC.toArray) HAX.out) Tryz.underlying24 rfl HI.out ?_)
                            | (refine store_fin rfl _ _ _ rfl rfl w.heap.size LC.toArray rfl rfl _ _ HRX.out HI'.out (HO.out _ rfl) HL1.out w HEX.out (Nat.le_refl _) ?_; intro w8 hb8 he8 _; have HB8 := Lib.hid hb8; have HE8 := Lib.hid he8; clear hb8 he8))
                          first
                            | refine bodyPost_ret (ret_row rfl _ _ w.heap.size _ _ _ rfl HB8.out Tryz.underlying24 rfl HI'.out) rfl ⟨?_, HE8.out⟩
                            | (simp only [Exit.inBlock, Exit.then]; refine bodyPost_ret (ret_row rfl _ _ w.heap.size _ _ _ rfl HB8.out Tryz.underlying24 rfl HI'.out) rfl ⟨?_, HE8.out⟩)
                          rw [HV.out]; rfl
                        | some m =>
                          have hm := hexG_lt hxg
                          have hh := HHX.out
                          rw [hxg] at hh
                          dsimp only at hh
                          have HH := Lib.hid hh; have HGR := Lib.hid (HSH.out m hxg h4n)
                          clear hh hxg h4n h4t h4f
                          have htw : [Value.int .u8 ((m : Int) / 256), .int .u8 ((m : Int) % 256)] = (two m).map _root_.Go.Proofs.YtmfdnbjmfgljlaaGreatDoor.u8 := by
                            have e1 : (UInt8.ofNat (m / 256)).toNat = m / 256 := by simp; omega
                            have e2 : (UInt8.ofNat (m % 256)).toNat = m % 256 := by simp
                            show _ = [Value.int .u8 (((UInt8.ofNat (m / 256)).toNat : Nat) : Int), .int .u8 (((UInt8.ofNat (m % 256)).toNat : Nat) : Int)]
                            rw [e1, e2]; rfl
                          have HTW := Lib.hid htw
                          clear htw
                          go_wp2_with (first
                            | (go_at_call 31; refine (HH.out _).mono ?_; rintro e w7 ⟨rfl, rfl⟩)
                            | (at_builtin; go_loud (refine wpList_append_own _ rfl _ _ 33 rfl ws.heap.size 5 i0 (.int .u8 0) 1 1 Tryz.underlying33 HI0.out hz0 hz1 hz2 rfl (by decide) _ _ _ rfl (HO6.out.alloc _) ⟨w7.heap.size, 0, none⟩ 2 2 [.int .u8 ((m : Int) / 256), .int .u8 ((m : Int) % 256)] rfl rfl ?c1 ?c2 ?c3 ?c4 ?c5 ?_)))
                          case c1 => exact World.news_of_block (heap_alloc_new _ _)
                          case c2 => rw [HTW.out]; exact one_u8 _
                          case c3 => unfold maxLen; omega
                          case c4 => omega
                          case c5 => have := HE6.out.size; simp; omega
                          intro v' w8 own8 grow8 _
                          rw [HTW.out, ← List.map_append, ← len_two m, ← List.length_append] at own8
                          have HQ := Lib.hid (⟨i + 1, b ++ two m, rfl, HGR.out, fun h => absurd h h0, own8, (HE6.out.alloc HE6.out.size _).grown grow8 (by have := HE6.out.size; simp; omega) (fun q hq => ((HO6.out.alloc (.cells #[.int .u8 ((m : Int) / 256), .int .u8 ((m : Int) % 256)] 5)).lt q hq).1)⟩ : ∃ (i2 : Nat) (b2 : List UInt8), Value.int .i64 (((i + 1 : Nat)) : Int) = .int .i64 (i2 : Int) ∧ GrR last r i2 b2 ∧ (p.size = 0 → i2 = 0 ∧ b2 = []) ∧ w8.ownsRow ws.heap.size 5 1 v' b2.length (b2.map _root_.Go.Proofs.YtmfdnbjmfgljlaaGreatDoor.u8) ∧ Below ws.heap.size ws w8)
                          clear own8 grow8
                          go_wp2
                          exact ⟨HQ.out, by simp only [natOf]; omega⟩
                  · have HF := Lib.hid (hG.trans (gr_end hi hgr)); have HO := Lib.hid hown; have HE := Lib.hid hbel
                    clear hgr h00 hown hbel hG
                    go_wp2
                    go_meet
                    case rel => exact ⟨b, HF.out, by omega, OutR.of (own_mono hwle HO.out), HE.out⟩
            case rest =>
              obtain ⟨b, hGb, hbl, hout, hbel⟩ := hcut
              have hgk := HGK.out b hGb
              have hE5 : Below wo.heap.size wo wc := keepW HBS.out hbel
              have hov5 : ∀ (i : Nat) (v : Value) (o : List UInt8), vs[i]? = some v → os[i]? = some o → OutR w.heap.size wc v o := fun i v o h1 h2 => (HOV.out i v o h1 h2).keep hE5
              obtain ⟨vb, hvb⟩ : ∃ vb, u13 = vb := ⟨_, rfl⟩
              obtain ⟨pp, cc, hvv, hpp⟩ := hout
              have hout5 : OutR w.heap.size wc (.slice pp b.length cc) b := ⟨pp, cc, rfl, hpp⟩
              subst hvv
              clear hvb hpp
              have HOW5 := Lib.hid (own_keep hE5 HOW.out)
              have HA5 := Lib.hid (Blk.keep hE5 HA4.out); have HR5 := Lib.hid (Blk.keep hE5 HR4.out); have HP5 := Lib.hid (Blk.keep hE5 HP4.out); have HE6 := Lib.hid (keepW HE4.out hE5)
              have HOV5 := Lib.hid hov5; have HOUT5 := Lib.hid hout5; have HGK5 := Lib.hid hgk
              have hsum2 : lenS os ≤ 6000 := by omega
              clear hgk hGb hbel hE5 hov5 hout5 HA4 HR4 HP4 HE4 HOV HOW HGK
              go_wp2_with (at_builtin; go_loud (refine wpList_append_own _ rfl _ _ 60 rfl w.heap.size 33 i1 (.slice none 0 0) 1 24 Tryz.underlying60 HI1.out hy0 hy1 hy2 rfl (by decide) _ _ _ rfl (HOW5.out.alloc _) ⟨wc.heap.size, 0, none⟩ 1 1 [.slice pp b.length cc] rfl rfl ?c1 ?c2 ?c3 ?c4 ?c5 ?_))
              case c1 => exact World.news_of_block (heap_alloc_new _ _)
              case c2 => intro u hu; rw [List.mem_singleton] at hu; subst hu; rfl
              case c3 => unfold maxLen; omega
              case c4 => omega
              case c5 => have := HE6.out.size; simp; omega
              intro v' w6 own6 grow6 _
              have bk : ∀ (b : Nat) (cs : Array Value) (T : TypeId), T ≠ 33 → Blk wc b cs T → Blk w6 b cs T := fun b cs T hT h => blk_grown (h.old _) hT (HOW5.out.alloc _) grow6
              have hE7 : Below w.heap.size w w6 := (HE6.out.alloc HE6.out.size _).grown grow6 (by have := HE6.out.size; simp; omega) (fun q hq => ((HOW5.out.alloc (.cells #[.slice pp b.length cc] 33)).lt q hq).1)
              have HQ := Lib.hid (⟨k + 1, os ++ [b], vs ++ [.slice pp b.length cc], by omega, rfl, by rw [List.length_append, HOL.out]; rfl, by rw [List.length_append, HVL.out]; rfl, HGK5.out,
                fun i v o h1 h2 => by
                  have hm : OutR w.heap.size wc v o := by
                    by_cases hi : i < k
                    · rw [List.getElem?_append_left (by have := HVL.out; omega)] at h1
                      rw [List.getElem?_append_left (by have := HOL.out; omega)] at h2
                      exact HOV5.out i v o h1 h2
                    · rw [List.getElem?_append_right (by have := HVL.out; omega), HVL.out] at h1
                      rw [List.getElem?_append_right (by have := HOL.out; omega), HOL.out] at h2
                      have h0 : i - k = 0 := by have := (List.getElem?_eq_some_iff.1 h1).1; simp at this; omega
                      rw [h0] at h1 h2
                      obtain rfl : Value.slice pp b.length cc = v := by simpa using h1
                      obtain rfl : b = o := by simpa using h2
                      exact HOUT5.out
                  exact hm.move fun bb cs hB => bk bb cs _ (by decide) hB,
                rfl, by rw [lenS_snoc]; omega, own6, bk _ _ _ (by decide) HA5.out, bk _ _ _ (by decide) HR5.out, bk _ _ _ (by decide) HP5.out, hE7⟩ : PsR ps n gP w v' (.int .i64 ((lenS (os ++ [b]) : Nat) : Int)) (.int .i64 (((k + 1 : Nat)) : Int)) w6)
              rw [lenS_snoc] at HQ
              clear own6 grow6 bk hE7
              go_wp2
              exact ⟨HQ.out, by simp only [natOf]; omega⟩
          · have hkn2 : k = n := by omega
            subst hkn2
            obtain ⟨hgn, hgs⟩ := HGOOD.out os hol hg
            have hk0 : 1 ≤ k := by have := HN12.out; omega
            have HA4 := Lib.hid hA; have HR4 := Lib.hid hR; have HE4 := Lib.hid hE; have HOV := Lib.hid hov; have HOW := Lib.hid hown; have HGN := Lib.hid hgn; have HGS := Lib.hid hgs; have HOL := Lib.hid hol; have HVL := Lib.hid hvl
            clear hA hR hP hE hov hown hgn hgs hg hol hvl
            go_upto_region 36 with fail
            go_cut [163] (fun s163 wx => wo = wx ∧ ∃ bad : Bool, s163 = .bool bad ∧ (bad = true → V = .tuple ⟨[.agg (zcs false), .bool false]⟩) ∧ (bad = false → GoodR k w vs V wx))
            case first =>
              rcases HCL.out with ⟨hci, hk1⟩ | ⟨hci, hk1⟩
              · have HK1 := Lib.hid hk1
                clear hk1
                by_cases h16 : lenS os = 16
                · have hbb : (((lenS os : Nat) : Int) != 16) = false := by rw [bne_eq_false_iff_eq]; omega
                  have H16 := Lib.hid h16
                  clear h16
                  go_wp2
                  go_meet
                  case rel => exact ⟨rfl, false, rfl, (by simp), fun _ => good_one HK1.out HOL.out HVL.out H16.out HOV.out HGS.out⟩
                · have hbb : (((lenS os : Nat) : Int) != 16) = true := by rw [bne_iff_ne]; omega
                  have H16 := Lib.hid h16
                  clear h16
                  go_wp2
                  go_meet
                  case rel => exact ⟨rfl, true, rfl, fun _ => HGN.out (bad_one HK1.out HOL.out H16.out), (by simp)⟩
              · have HK1 := Lib.hid hk1
                clear hk1
                by_cases h14 : lenS os ≤ 14
                · have hbb : ¬ (14 : Int) < ((lenS os : Nat) : Int) := by omega
                  have H14 := Lib.hid h14
                  clear h14
                  go_wp2
                  go_meet
                  case rel => exact ⟨rfl, false, rfl, (by simp), fun _ => good_two HK1.out HOL.out HVL.out H14.out HOV.out HGS.out⟩
                · have hbb : (14 : Int) < ((lenS os : Nat) : Int) := by omega
                  have H14 := Lib.hid h14
                  clear h14
                  go_wp2
                  go_meet
                  case rel => exact ⟨rfl, true, rfl, fun _ => HGN.out (bad_two HK1.out HOL.out H14.out), (by simp)⟩
            case rest =>
              obtain ⟨rfl, bad, rfl, hbad1, hgood1⟩ := hcut
              cases bad with
              | true =>
                have HVF := Lib.hid (hbad1 rfl)
                clear hbad1 hgood1
                obtain ⟨LC, hLC, hLl, hL1, hLV⟩ : ∃ LC : List Value, Value.bool false :: (List.replicate 16 (0 : UInt8)).map _root_.Go.Proofs.YtmfdnbjmfgljlaaGreatDoor.u8 = LC ∧ LC.length = 17 ∧ LC.toArray.all (·.oneCell') = true ∧ V = .tuple ⟨[.agg LC.toArray, .bool false]⟩ :=
                  ⟨_, rfl, by rw [List.length_cons, List.length_map]; exact congrArg (· + 1) List.length_replicate, all_oneCell_toArray (fun v hv => by rcases List.mem_cons.1 hv with rfl | hv; rfl; exact one_u8 _ v hv), HVF.out⟩
                have hAX : Blk wo (w.heap.size + 1) LC.toArray 24 := by rw [← hLC]; exact HA4.out
                have hRX : Blk wo w.heap.size (cA false (List.replicate 16 0)) 24 := HR4.out
                have hEX : Below w.heap.size w wo := HE4.out
                have hi17 : (Tryz.prog.info? 24).map (·.size) = some LC.length := by rw [infoAddr, hLl]
                have hi17' : (Tryz.prog.info? 24).map (·.size) = some LC.toArray.size := by rw [infoAddr, List.size_toArray, hLl]
                have hold : ∀ n : Nat, n = 17 → n = LC.toArray.size := fun n h => by rw [List.size_toArray, hLl, h]
                have HV := Lib.hid hLV; have HAX := Lib.hid hAX; have HRX := Lib.hid hRX; have HEX := Lib.hid hEX; have HL1 := Lib.hid hL1; have HI := Lib.hid hi17; have HI' := Lib.hid hi17'; have HO := Lib.hid hold
                clear hLC hLV hAX hRX hEX hLl hL1 hi17 hi17' hold
                skip
                go_wp2_with (first
                  | (refine load_mid_w rfl _ _ rfl (w.heap.size + 1) 0 rfl LC _ (Blk.range (cs := LC.toArray) HAX.out) Tryz.underlying24 rfl HI.out ?_)
                  | (refine store_fin rfl _ _ _ rfl rfl w.heap.size LC.toArray rfl rfl _ _ HRX.out HI'.out (HO.out _ rfl) HL1.out w HEX.out (Nat.le_refl _) ?_; intro w8 hb8 he8 _; have HB8 := Lib.hid hb8; have HE8 := Lib.hid he8; clear hb8 he8))
                first
                  | refine bodyPost_ret (ret_row rfl _ _ w.heap.size _ _ _ rfl HB8.out Tryz.underlying24 rfl HI'.out) rfl ⟨?_, HE8.out⟩
                  | (simp only [Exit.inBlock, Exit.then]; refine bodyPost_ret (ret_row rfl _ _ w.heap.size _ _ _ rfl HB8.out Tryz.underlying24 rfl HI'.out) rfl ⟨?_, HE8.out⟩)
                rw [HV.out]; rfl
              | false =>
                obtain ⟨f, b, v0, vl, hv0, hvl, ho0, hol, hf16, hb16, hV⟩ := hgood1 rfl
                obtain ⟨p0, c0, rfl, hp0⟩ := ho0
                obtain ⟨pl, cl, rfl, hpl⟩ := hol
                obtain ⟨pv, cv, rfl, hpv⟩ := own_parts HVL.out.symm HOW.out
                obtain ⟨gV, curV, rfl, _, hbV, hcV⟩ := hpv (by omega)
                have hc0 := hcV 0 _ hv0
                have hcl := hcV (k - 1) _ hvl
                have hnV := blk_ne hbV HA4.out (by decide)
                have hp0' : 0 < f.length → ∃ g cur, p0 = some ⟨g, 0, none⟩ ∧ g ≠ w.heap.size + 1 ∧ Blk wo g cur 5 ∧ ∀ (k : Nat) (c : UInt8), f[k]? = some c → cur[k]? = some (.int .u8 (c.toNat : Int)) := fun h => by
                  obtain ⟨g, cur, h1, _, h3, h4⟩ := hp0 h
                  exact ⟨g, cur, h1, blk_ne h3 HA4.out (by decide), h3, h4⟩
                have hpl' : 0 < b.length → ∃ g cur, pl = some ⟨g, 0, none⟩ ∧ g ≠ w.heap.size + 1 ∧ Blk wo g cur 5 ∧ ∀ (k : Nat) (c : UInt8), b[k]? = some c → cur[k]? = some (.int .u8 (c.toNat : Int)) := fun h => by
                  obtain ⟨g, cur, h1, _, h3, h4⟩ := hpl h
                  exact ⟨g, cur, h1, blk_ne h3 HA4.out (by decide), h3, h4⟩
                have hk1 : ((k : Nat) : Int) - 1 = ((k - 1 : Nat) : Int) := by omega
                have HC0 := Lib.hid hc0; have HCL2 := Lib.hid hcl; have HBV := Lib.hid hbV; have HNV := Lib.hid hnV; have HP0 := Lib.hid hp0'; have HPL2 := Lib.hid hpl'; have HVV := Lib.hid hV; have HK1 := Lib.hid hk1
                clear hc0 hcl hbV hcV hnV hp0 hpl hp0' hpl' hV hk1 hv0 hvl hpv HOW HOV HGN HGS HOL HVL hbad1 hgood1
                have hlB : ∀ i : Nat, i ≤ f.length → (splice (List.replicate 16 (0 : UInt8)) 0 (f.take i)).length = 16 := fun i hi => by rw [splice_len (by rw [List.length_take, List.length_replicate]; omega), List.length_replicate]
                have HLB := Lib.hid hlB
                clear hlB
                go_wp2
                go_loopw [17] (fun t17 wr => ∃ i : Nat, i ≤ f.length ∧ t17 = .int .i64 (i : Int) ∧ Blk wr (w.heap.size + 1) (cA false (splice (List.replicate 16 0) 0 (f.take i))) 24 ∧ (∀ (b : Nat) (cs : Array Value) (T : TypeId), b ≠ w.heap.size + 1 → Blk wo b cs T → Blk wr b cs T) ∧ Below w.heap.size w wr) (fun i _ => f.length - natOf i)
                case atStart => exact ⟨0, Nat.zero_le _, rfl, by rw [List.take_zero, splice_zero]; exact HA4.out, fun _ _ _ _ h => h, HE4.out⟩
                case round =>
                  obtain ⟨i, hi, rfl, hA, hK, hE⟩ := hrel
                  have hcell0 : wr.cell? ⟨gV, 0, none⟩ = some (.slice p0 f.length c0) := ((hK _ _ _ HNV.out HBV.out).cell 0).trans HC0.out
                  by_cases hif : i < f.length
                  · obtain ⟨g0, cur0, rfl, hn0, hb0, hc0⟩ := HP0.out (by omega)
                    have hcb : wr.cell? ⟨g0, i, none⟩ = some (.int .u8 (f[i].toNat : Int)) := ((hK _ _ _ hn0 hb0).cell i).trans (hc0 i _ (List.getElem?_eq_getElem hif))
                    obtain ⟨x0, hold⟩ : ∃ x : UInt8, wr.cell? ⟨w.heap.size + 1, 1 + i, none⟩ = some (.int .u8 (x.toNat : Int)) := ⟨_, (hA.cell (1 + i)).trans (cA_get false (k := i) (by rw [HLB.out i hi]; omega))⟩
                    have hfree := hA.free (1 + i)
                    have hA' := hA.put (i := 1 + i) (.int .u8 (f[i].toNat : Int))
                    have hss := splice_set (l := List.replicate 16 (0 : UInt8)) (off := 0) hif (by rw [List.length_replicate]; omega)
                    rw [Nat.zero_add] at hss
                    rw [cA_set, hss] at hA'
                    have hK' : ∀ (b : Nat) (cs : Array Value) (T : TypeId), b ≠ w.heap.size + 1 → Blk wo b cs T → Blk (wr.setCell ⟨w.heap.size + 1, 1 + i, none⟩ (.int .u8 (f[i].toNat : Int))) b cs T := fun b cs T hne h => (hK b cs T hne h).else _ hne
                    have hE' := hE.setCell (p := ⟨w.heap.size + 1, 1 + i, none⟩) (by simp) (.int .u8 (f[i].toNat : Int))
                    have HA' := Lib.hid hA'; have HK' := Lib.hid hK'; have HE' := Lib.hid hE'
                    clear hA' hK' hE' hss hA hK hE hn0 hb0 hc0
                    generalize f[i] = c at *
                    go_wp2
                    go_roundw
                    case rel => exact ⟨i + 1, by omega, by go_num, HA'.out, HK'.out, HE'.out⟩
                    case measure => simp [natOf]; omega
                  · rw [List.take_of_length_le (by omega)] at hA
                    have hcelll : wr.cell? ⟨gV, k - 1, none⟩ = some (.slice pl b.length cl) := ((hK _ _ _ HNV.out HBV.out).cell (k - 1)).trans HCL2.out
                    obtain ⟨w5, rfl⟩ : ∃ w5 : World, w5 = wr := ⟨_, rfl⟩
                    have hl0 := HLB.out f.length (Nat.le_refl _)
                    rw [List.take_of_length_le (Nat.le_refl _)] at hl0
                    obtain ⟨L0, hL0⟩ : ∃ L0, splice (List.replicate 16 (0 : UInt8)) 0 f = L0 := ⟨_, rfl⟩
                    rw [hL0] at hA hl0 HVV
                    have hl0' : 16 ≤ L0.length := by omega
                    have HA5 := Lib.hid hA; have HE5 := Lib.hid hE; have HL0 := Lib.hid hl0; have HR5 := Lib.hid (hK _ _ _ (by omega) HR4.out)
                    have hk1 := HK1.out
                    by_cases hb0 : 0 < b.length
                    · obtain ⟨gl, curl, rfl, hnl, hbl, hcl⟩ := HPL2.out hb0
                      have HBL := Lib.hid (hK _ _ _ hnl hbl); have HCL := Lib.hid hcl; have HNL := Lib.hid hnl
                      clear hA hK hE hnl hbl hcl hL0 hl0
                      go_wp2
                      go_loopw [19] (fun t19 wx => ∃ j : Nat, j ≤ b.length ∧ t19 = .int .i64 (j : Int) ∧ Blk wx (w.heap.size + 1) (cA false (splice L0 (16 - b.length) (b.take j))) 24 ∧ (∀ (b : Nat) (cs : Array Value) (T : TypeId), b ≠ w.heap.size + 1 → Blk w5 b cs T → Blk wx b cs T) ∧ Below w.heap.size w wx) (fun j _ => b.length - natOf j)
                      case atStart => exact ⟨0, Nat.zero_le _, rfl, by rw [List.take_zero, splice_zero]; exact HA5.out, fun _ _ _ _ h => h, HE5.out⟩
                      case round =>
                        obtain ⟨j, hj, rfl, hA, hK, hE⟩ := hrel
                        obtain ⟨wx, rfl⟩ : ∃ wx : World, wx = wr := ⟨_, rfl⟩
                        by_cases hjb : j < b.length
                        · have hcb : wx.cell? ⟨gl, j, none⟩ = some (.int .u8 (b[j].toNat : Int)) := ((hK _ _ _ HNL.out HBL.out).cell j).trans (HCL.out j _ (List.getElem?_eq_getElem hjb))
                          have hidx : (16 : Int) - (b.length : Int) + (j : Int) = ((16 - b.length + j : Nat) : Int) := by omega
                          have hls : (splice L0 (16 - b.length) (b.take j)).length = 16 := by rw [splice_len (by rw [List.length_take]; omega)]; exact HL0.out
                          obtain ⟨x0, hold⟩ : ∃ x : UInt8, wx.cell? ⟨w.heap.size + 1, 1 + (16 - b.length + j), none⟩ = some (.int .u8 (x.toNat : Int)) := ⟨_, (hA.cell (1 + (16 - b.length + j))).trans (cA_get false (k := 16 - b.length + j) (by omega))⟩
                          have hfree := hA.free (1 + (16 - b.length + j))
                          have hA' := hA.put (i := 1 + (16 - b.length + j)) (.int .u8 (b[j].toNat : Int))
                          have hss := splice_set (l := L0) (off := 16 - b.length) hjb (by omega)
                          rw [cA_set, hss] at hA'
                          have hK' : ∀ (g : Nat) (cs : Array Value) (T : TypeId), g ≠ w.heap.size + 1 → Blk w5 g cs T → Blk (wx.setCell ⟨w.heap.size + 1, 1 + (16 - b.length + j), none⟩ (.int .u8 (b[j].toNat : Int))) g cs T := fun g cs T hne h => (hK g cs T hne h).else _ hne
                          have hE' := hE.setCell (p := ⟨w.heap.size + 1, 1 + (16 - b.length + j), none⟩) (by simp) (.int .u8 (b[j].toNat : Int))
                          have HA' := Lib.hid hA'; have HK' := Lib.hid hK'; have HE' := Lib.hid hE'
                          clear hA' hK' hE' hss hA hK hE hls
                          generalize b[j] = c at *
                          go_wp2
                          go_roundw
                          case rel => exact ⟨j + 1, by omega, by go_num, HA'.out, HK'.out, HE'.out⟩
                          case measure => simp [natOf]; omega
                        · rw [List.take_of_length_le (by omega)] at hA
                          have hold0 : wx.cell? ⟨w.heap.size + 1, 0, none⟩ = some (.bool false) := (hA.cell 0).trans rfl
                          have hfree0 := hA.free 0
                          have hA0 := hA.put (i := 0) (.bool true)
                          rw [cA_flag] at hA0
                          have HA0 := Lib.hid hA0
                          have HR0 := Lib.hid ((hK _ _ _ (by omega) HR5.out).else (a := ⟨w.heap.size + 1, 0, none⟩) (.bool true) (by simp))
                          have HE0 := Lib.hid (hE.setCell (p := ⟨w.heap.size + 1, 0, none⟩) (by simp) (.bool true))
                          clear hA hK hE hA0
                          go_upto_region 48 with fail
                          obtain ⟨LC, hLC, hLl, hL1, hLV⟩ : ∃ LC : List Value, Value.bool true :: (splice L0 (16 - b.length) b).map _root_.Go.Proofs.YtmfdnbjmfgljlaaGreatDoor.u8 = LC ∧ LC.length = 17 ∧ LC.toArray.all (·.oneCell') = true ∧ V = .tuple ⟨[.agg LC.toArray, .bool true]⟩ :=
                            ⟨_, rfl, by rw [List.length_cons, List.length_map]; exact congrArg (· + 1) ((splice_len (by omega)).trans HL0.out), all_oneCell_toArray (fun v hv => by rcases List.mem_cons.1 hv with rfl | hv; rfl; exact one_u8 _ v hv), HVV.out⟩
                          have hAX : Blk (wx.setCell ⟨w.heap.size + 1, 0, none⟩ (.bool true)) (w.heap.size + 1) LC.toArray 24 := by rw [← hLC]; exact HA0.out
                          have hRX : Blk (wx.setCell ⟨w.heap.size + 1, 0, none⟩ (.bool true)) w.heap.size (cA false (List.replicate 16 0)) 24 := HR0.out
                          have hEX : Below w.heap.size w (wx.setCell ⟨w.heap.size + 1, 0, none⟩ (.bool true)) := HE0.out
                          have hi17 : (Tryz.prog.info? 24).map (·.size) = some LC.length := by rw [infoAddr, hLl]
                          have hi17' : (Tryz.prog.info? 24).map (·.size) = some LC.toArray.size := by rw [infoAddr, List.size_toArray, hLl]
                          have hold : ∀ n : Nat, n = 17 → n = LC.toArray.size := fun n h => by rw [List.size_toArray, hLl, h]
                          have HV := Lib.hid hLV; have HAX := Lib.hid hAX; have HRX := Lib.hid hRX; have HEX := Lib.hid hEX; have HL1 := Lib.hid hL1; have HI := Lib.hid hi17; have HI' := Lib.hid hi17'; have HO := Lib.hid hold
                          clear hLC hLV hAX hRX hEX hLl hL1 hi17 hi17' hold
                          skip
                          go_wp2_with (first
                            | (refine load_mid_w rfl _ _ rfl (w.heap.size + 1) 0 rfl LC _ (Blk.range (cs := LC.toArray) HAX.out) Tryz.underlying24 rfl HI.out ?_)
                            | (refine store_fin rfl _ _ _ rfl rfl w.heap.size LC.toArray rfl rfl _ _ HRX.out HI'.out (HO.out _ rfl) HL1.out w HEX.out (Nat.le_refl _) ?_; intro w8 hb8 he8 _; have HB8 := Lib.hid hb8; have HE8 := Lib.hid he8; clear hb8 he8))
                          first
                            | refine bodyPost_ret (ret_row rfl _ _ w.heap.size _ _ _ rfl HB8.out Tryz.underlying24 rfl HI'.out) rfl ⟨?_, HE8.out⟩
                            | (simp only [Exit.inBlock, Exit.then]; refine bodyPost_ret (ret_row rfl _ _ w.heap.size _ _ _ rfl HB8.out Tryz.underlying24 rfl HI'.out) rfl ⟨?_, HE8.out⟩)
                          rw [HV.out]; rfl
                    · clear hA hK hE hL0 hl0
                      go_wp2
                      go_loopw [19] (fun t19 wx => ∃ j : Nat, j ≤ b.length ∧ t19 = .int .i64 (j : Int) ∧ Blk wx (w.heap.size + 1) (cA false (splice L0 (16 - b.length) (b.take j))) 24 ∧ (∀ (b : Nat) (cs : Array Value) (T : TypeId), b ≠ w.heap.size + 1 → Blk w5 b cs T → Blk wx b cs T) ∧ Below w.heap.size w wx) (fun j _ => b.length - natOf j)
                      case atStart => exact ⟨0, Nat.zero_le _, rfl, by rw [List.take_zero, splice_zero]; exact HA5.out, fun _ _ _ _ h => h, HE5.out⟩
                      case round =>
                        obtain ⟨j, hj, rfl, hA, hK, hE⟩ := hrel
                        obtain ⟨wx, rfl⟩ : ∃ wx : World, wx = wr := ⟨_, rfl⟩
                        by_cases hjb : j < b.length
                        · exact absurd hjb (by omega)
                        · rw [List.take_of_length_le (by omega)] at hA
                          have hold0 : wx.cell? ⟨w.heap.size + 1, 0, none⟩ = some (.bool false) := (hA.cell 0).trans rfl
                          have hfree0 := hA.free 0
                          have hA0 := hA.put (i := 0) (.bool true)
                          rw [cA_flag] at hA0
                          have HA0 := Lib.hid hA0
                          have HR0 := Lib.hid ((hK _ _ _ (by omega) HR5.out).else (a := ⟨w.heap.size + 1, 0, none⟩) (.bool true) (by simp))
                          have HE0 := Lib.hid (hE.setCell (p := ⟨w.heap.size + 1, 0, none⟩) (by simp) (.bool true))
                          clear hA hK hE hA0
                          go_upto_region 48 with fail
                          obtain ⟨LC, hLC, hLl, hL1, hLV⟩ : ∃ LC : List Value, Value.bool true :: (splice L0 (16 - b.length) b).map _root_.Go.Proofs.YtmfdnbjmfgljlaaGreatDoor.u8 = LC ∧ LC.length = 17 ∧ LC.toArray.all (·.oneCell') = true ∧ V = .tuple ⟨[.agg LC.toArray, .bool true]⟩ :=
                            ⟨_, rfl, by rw [List.length_cons, List.length_map]; exact congrArg (· + 1) ((splice_len (by omega)).trans HL0.out), all_oneCell_toArray (fun v hv => by rcases List.mem_cons.1 hv with rfl | hv; rfl; exact one_u8 _ v hv), HVV.out⟩
                          have hAX : Blk (wx.setCell ⟨w.heap.size + 1, 0, none⟩ (.bool true)) (w.heap.size + 1) LC.toArray 24 := by rw [← hLC]; exact HA0.out
                          have hRX : Blk (wx.setCell ⟨w.heap.size + 1, 0, none⟩ (.bool true)) w.heap.size (cA false (List.replicate 16 0)) 24 := HR0.out
                          have hEX : Below w.heap.size w (wx.setCell ⟨w.heap.size + 1, 0, none⟩ (.bool true)) := HE0.out
                          have hi17 : (Tryz.prog.info? 24).map (·.size) = some LC.length := by rw [infoAddr, hLl]
                          have hi17' : (Tryz.prog.info? 24).map (·.size) = some LC.toArray.size := by rw [infoAddr, List.size_toArray, hLl]
                          have hold : ∀ n : Nat, n = 17 → n = LC.toArray.size := fun n h => by rw [List.size_toArray, hLl, h]
                          have HV := Lib.hid hLV; have HAX := Lib.hid hAX; have HRX := Lib.hid hRX; have HEX := Lib.hid hEX; have HL1 := Lib.hid hL1; have HI := Lib.hid hi17; have HI' := Lib.hid hi17'; have HO := Lib.hid hold
                          clear hLC hLV hAX hRX hEX hLl hL1 hi17 hi17' hold
                          skip
                          go_wp2_with (first
                            | (refine load_mid_w rfl _ _ rfl (w.heap.size + 1) 0 rfl LC _ (Blk.range (cs := LC.toArray) HAX.out) Tryz.underlying24 rfl HI.out ?_)
                            | (refine store_fin rfl _ _ _ rfl rfl w.heap.size LC.toArray rfl rfl _ _ HRX.out HI'.out (HO.out _ rfl) HL1.out w HEX.out (Nat.le_refl _) ?_; intro w8 hb8 he8 _; have HB8 := Lib.hid hb8; have HE8 := Lib.hid he8; clear hb8 he8))
                          first
                            | refine bodyPost_ret (ret_row rfl _ _ w.heap.size _ _ _ rfl HB8.out Tryz.underlying24 rfl HI'.out) rfl ⟨?_, HE8.out⟩
                            | (simp only [Exit.inBlock, Exit.then]; refine bodyPost_ret (ret_row rfl _ _ w.heap.size _ _ _ rfl HB8.out Tryz.underlying24 rfl HI'.out) rfl ⟨?_, HE8.out⟩)
                          rw [HV.out]; rfl
end Go.Proofs.YtmfdnbjmfgljlaaGreatDoor


/-
  The document's reading of an endpoint: facts for the walk.
-/




namespace Go.Proofs.YtmfdnbjmfgljlaaGreatDoor

open Go.Den Go.RowKit

set_option maxRecDepth 100000

set_option linter.unusedSectionVars false

def vpr (s : ByteArray) : Value := .tuple ⟨[ends (peB s) (peL s) (peP s), .bool (peK s)]⟩
theorem vpr_none {s : ByteArray} (h : peQ s = none) : vpr s = .tuple ⟨[ends false [] 0, .bool false]⟩ := by
  unfold vpr peB peL peP peK; rw [h]; rfl
theorem vpr_some {s : ByteArray} {e : EndsL} (h : peQ s = some e) : vpr s = .tuple ⟨[ends e.1.1 e.1.2 (e.2 : Int), .bool true]⟩ := by
  unfold vpr peB peL peP peK; rw [h]; rfl
def adrC (v : Bool) (l : List UInt8) : List Value := .bool v :: b16 l
def endsC (v : Bool) (l : List UInt8) (p : Int) : List Value := .bool v :: (b16 l ++ [.int .u16 p])
theorem ends_C (v : Bool) (l : List UInt8) (p : Int) : ends v l p = .agg (endsC v l p).toArray := rfl
theorem infoEnds : (Tryz.prog.info? 32).map (·.size) = some 18 := by kernel_rfl
theorem built_ends (v : Bool) (l : List UInt8) (p : Int) : Tryz.prog.built 32 [(0, .agg (adrC v l).toArray), (1, .int .u16 p)] = some (endsC v l p).toArray := by kernel_rfl
theorem build_to {P : Program} {ops : Array Oper} {rest : List Oper} {o : Oper} {a : Act} {w : World} {Q : Exit → Act → World → Prop} (hg : o.guard = none) (t : TypeId) (parts : Array (Nat × Operand)) (ho : o.op = .build t parts)
    (d : Option Tmp) (hd : o.dst = d) (cells : Array Value) (hf : P.built t (parts.map fun (i, x) => (i, a.eval x)).toList = some cells) (h : wpList P ops Q rest (a.put d (.agg cells)) w) : wpList P ops Q (o :: rest) a w := by
  subst hd
  refine wpList_build hg t parts ho (by rw [hf]; rfl) ?_
  rw [hf]
  exact h
theorem adrC_one (v : Bool) (l : List UInt8) : (adrC v l).toArray.all (·.oneCell') = true := by kernel_rfl
theorem endsC_one (v : Bool) (l : List UInt8) (p : Int) : (endsC v l p).toArray.all (·.oneCell') = true := by kernel_rfl
/-- The brackets of a text. -/
theorem br_cases (t : ByteArray) : (¬ 1 < t.size ∧ unBr t.data.toList = t.data.toList) ∨
    (∃ n, ∃ h0 : 0 < t.size, t.size = n + 1 ∧ 1 ≤ n ∧ ((((t[0]'h0).toNat : Nat) : Int) == 91) = false ∧ unBr t.data.toList = t.data.toList) ∨
    (∃ n, ∃ h0 : 0 < t.size, ∃ hn : n < t.size, t.size = n + 1 ∧ 1 ≤ n ∧ ((((t[0]'h0).toNat : Nat) : Int) == 91) = true ∧ ((((t[n]'hn).toNat : Nat) : Int) == 93) = false ∧ unBr t.data.toList = t.data.toList) ∨
    (∃ n, ∃ h0 : 0 < t.size, ∃ hn : n < t.size, t.size = n + 1 ∧ 1 ≤ n ∧ ((((t[0]'h0).toNat : Nat) : Int) == 91) = true ∧ ((((t[n]'hn).toNat : Nat) : Int) == 93) = true ∧ unBr t.data.toList = (t.extract 1 n).data.toList) := by
  have hl := size_data t
  by_cases h1 : 1 < t.size
  · have h0 : 0 < t.size := by omega
    have hn : t.size - 1 < t.size := by omega
    have hh : t.data.toList.head? = some (t[0]'h0) := head_at h0
    have ht : t.data.toList.getLast? = some (t[t.size - 1]'hn) := by
      rw [List.getLast?_eq_getElem?, hl, List.getElem?_eq_getElem (by omega)]; rfl
    by_cases ha : t[0]'h0 = 91
    · have hca : ((((t[0]'h0).toNat : Nat) : Int) == 91) = true := by rw [ha]; rfl
      by_cases hb : t[t.size - 1]'hn = 93
      · refine .inr (.inr (.inr ⟨t.size - 1, h0, hn, by omega, by omega, hca, by rw [hb]; rfl, ?_⟩))
        unfold unBr
        rw [if_pos ⟨by omega, by rw [hh, ha], by rw [ht, hb]⟩, ext_mk, data_mkB, List.dropLast_eq_take, List.length_drop, hl, List.drop_take]
      · refine .inr (.inr (.inl ⟨t.size - 1, h0, hn, by omega, by omega, hca, ?_, ?_⟩))
        · rw [beq_eq_false_iff_ne]; exact fun e => hb (u8_eq (by have : (93 : UInt8).toNat = 93 := rfl; omega))
        · unfold unBr; rw [if_neg]; rintro ⟨_, _, h⟩; rw [ht] at h; exact hb (Option.some.inj h)
    · refine .inr (.inl ⟨t.size - 1, h0, by omega, by omega, ?_, ?_⟩)
      · rw [beq_eq_false_iff_ne]; exact fun e => ha (u8_eq (by have : (91 : UInt8).toNat = 91 := rfl; omega))
      · unfold unBr; rw [if_neg]; rintro ⟨_, h, _⟩; rw [hh] at h; exact ha (Option.some.inj h)
  · left
    refine ⟨h1, ?_⟩
    unfold unBr; rw [if_neg]; rintro ⟨h, _⟩; omega
theorem findR_end {l : List UInt8} {i : Nat} (h : ¬ i < l.length) (hf : peR l = findR l (l.length - i) i) : peR l = none := by
  rw [hf, show l.length - i = 0 by omega]; rfl
theorem findR_hit {l : List UInt8} {i : Nat} {e : EndsL} (h : i < l.length) (hf : peR l = findR l (l.length - i) i) (hh : hitR l i = some e) : peR l = some e := by
  rw [hf, show l.length - i = (l.length - (i + 1)) + 1 by omega, findR, hh]
theorem findR_miss {l : List UInt8} {i : Nat} (h : i < l.length) (hf : peR l = findR l (l.length - i) i) (hh : hitR l i = none) : peR l = findR l (l.length - (i + 1)) (i + 1) := by
  rw [hf, show l.length - i = (l.length - (i + 1)) + 1 by omega, findR, hh]
end Go.Proofs.YtmfdnbjmfgljlaaGreatDoor


/-
  The document's reading of an endpoint: the walk.
-/

namespace Go.Proofs.YtmfdnbjmfgljlaaGreatDoor

open Go.Den Go.RowKit

set_option maxRecDepth 100000

set_option linter.unusedSectionVars false

variable [Inhabited Root]

set_option maxHeartbeats 4000000 in
theorem pends5_walk (hR : Ra) (hparse : ∀ t : ByteArray, t.size ≤ 1000 → ∀ w : World, Calls Tryz.prog 16 #[.string t] w fun e w' => e = .returned (.tuple ⟨[adr (paB t) (paL t), .bool (paK t)]⟩) ∧ Below w.heap.size w w')
    (s : ByteArray) (hs : s.size ≤ 1000) (w : World) (hw : Held w) :
    Calls Tryz.prog 18 #[.string s] w fun e w' => e = .returned (vpr s) ∧ Below w.heap.size w w' := by
  have hl : s.data.toList.length = s.size := size_data s
  obtain ⟨V, hV⟩ : ∃ V, vpr s = V := ⟨_, rfl⟩
  have hpq : peQ s = peR s.data.toList := (pe_same _).symm
  have hVn : peR s.data.toList = none → V = .tuple ⟨[.agg (endsC false [] 0).toArray, .bool false]⟩ := fun h => by rw [← hV, vpr_none (hpq.trans h)]; rfl
  have hVs : ∀ e, peR s.data.toList = some e → V = .tuple ⟨[.agg (endsC e.1.1 e.1.2 (e.2 : Int)).toArray, .bool true]⟩ := fun e h => by rw [← hV, vpr_some (hpq.trans h)]; rfl
  rw [hV]
  have HVN := Lib.hid hVn; have HVS := Lib.hid hVs; have HPAR := Lib.hid hparse; have HW := Lib.hid hw
  clear hVn hVs hV hpq hparse
  go_enter Tryz.func18, Tryz.ntmps18
  go_wp2
  go_loopw [4] (fun t4 wr => ∃ i : Nat, i ≤ s.size ∧ t4 = .int .i64 (i : Int) ∧ peR s.data.toList = findR s.data.toList (s.data.toList.length - i) i ∧ Blk wr w.heap.size (endsC false [] 0).toArray 32 ∧ Below w.heap.size w wr) (fun i _ => s.size - natOf i)
  case atStart => exact ⟨0, Nat.zero_le _, rfl, rfl, Blk.new rfl, (Below.refl _ w).alloc (Nat.le_refl _) _⟩
  case round =>
    obtain ⟨i, hi, rfl, hf, hR0, hE⟩ := hrel
    obtain ⟨wo, rfl⟩ : ∃ wo : World, wo = wr := ⟨_, rfl⟩
    by_cases his : i < s.size
    · have hil : i < s.data.toList.length := by omega
      have hci : s.data.toList[i]? = some (s[i]'his) := List.getElem?_eq_getElem hil
      have hnum := number_walk (s.extract (i + 1) s.size) 65535 (by omega)
      have hdr : (s.extract (i + 1) s.size).data.toList = s.data.toList.drop (i + 1) := by rw [ext_mk, data_mkB, List.take_of_length_le (by omega)]
      have hval : numR 65535 (s.extract (i + 1) s.size) = match numL 65535 (s.data.toList.drop (i + 1)) with
        | some n => (n : Int)
        | none => -1 := by rw [← hdr]; rfl
      rw [hval, show ((65535 : Nat) : Int) = 65535 from rfl] at hnum
      have hmiss : hitR s.data.toList i = none → peR s.data.toList = findR s.data.toList (s.data.toList.length - (i + 1)) (i + 1) := fun h => findR_miss hil hf h
      have hhit : ∀ e, hitR s.data.toList i = some e → peR s.data.toList = some e := fun e h => findR_hit hil hf h
      have HMI := Lib.hid hmiss; have HHI := Lib.hid hhit; have HB0 := Lib.hid hR0; have HE0 := Lib.hid hE
      clear hmiss hhit hR0 hE hf hdr hval
      by_cases hc : s[i]'his = 58
      · have hcb : ((((s[i]'his).toNat : Nat) : Int) != 58) = false := by rw [hc]; rfl
        cases hn : numL 65535 (s.data.toList.drop (i + 1)) with
        | none =>
          rw [hn] at hnum
          dsimp only at hnum
          have hm := HMI.out (by unfold hitR; rw [hci, hc, if_pos rfl, hn]; rfl)
          have HN := Lib.hid hnum; have HM := Lib.hid hm
          clear hnum hm hn hci hc
          go_wp2_with (go_at_call 36; refine (HN.out _).mono ?_; rintro e w' ⟨rfl, rfl⟩)
          go_roundw
          case rel => exact ⟨i + 1, by omega, by go_num, HM.out, HB0.out, HE0.out⟩
          case measure => simp [natOf]; omega
        | some n =>
          rw [hn] at hnum
          dsimp only at hnum
          have hn5 : n ≤ 65535 := (num_dec hn).2
          have hht : hitR s.data.toList i = (parR (unBr (s.data.toList.take i))).bind fun a => if endsL (a, n) = s.data.toList then some (a, n) else none := by
            unfold hitR; rw [hci, hc, if_pos rfl, hn]; rfl
          have HN := Lib.hid hnum; have HHT := Lib.hid hht
          clear hnum hn hci hc hht
          go_upto_region 7 with (go_at_call 36; refine (HN.out _).mono ?_; rintro e w' ⟨rfl, rfl⟩)
          obtain ⟨t, ht⟩ : ∃ t, s.extract 0 i = t := ⟨_, rfl⟩
          rw [ht]
          have htd : t.data.toList = s.data.toList.take i := by rw [← ht, ext_mk, data_mkB, List.drop_zero]
          have htz : t.size ≤ 1000 := by rw [← size_data t, htd, List.length_take]; omega
          have hbr := br_cases t
          rw [htd] at hbr
          have HBR := Lib.hid hbr; have HTD := Lib.hid htd
          clear hbr ht htd
          go_cut [47] (fun s47 wx => w' = wx ∧ ∃ bb : Bool, s47 = .bool bb ∧ (bb = false → unBr (s.data.toList.take i) = t.data.toList) ∧ (bb = true → ∃ n, 1 ≤ n ∧ t.size = n + 1 ∧ unBr (s.data.toList.take i) = (t.extract 1 n).data.toList))
          case first =>
            rcases HBR.out with ⟨h1, hu⟩ | ⟨m, h0, hsz, hm1, hc1, hu⟩ | ⟨m, h0, hm, hsz, hm1, hc1, hc2, hu⟩ | ⟨m, h0, hm, hsz, hm1, hc1, hc2, hu⟩
            · have HU := Lib.hid hu
              have h1' : ¬ (1 : Int) < (t.size : Int) := by omega
              clear hu
              go_wp2
              go_meet
              case rel => exact ⟨rfl, false, rfl, (fun _ => HU.out.trans HTD.out.symm), (by simp)⟩
            · have HU := Lib.hid hu
              clear hu
              go_wp2
              go_meet
              case rel => exact ⟨rfl, false, rfl, (fun _ => HU.out.trans HTD.out.symm), (by simp)⟩
            · have HU := Lib.hid hu
              clear hu
              go_wp2
              go_meet
              case rel => exact ⟨rfl, false, rfl, (fun _ => HU.out.trans HTD.out.symm), (by simp)⟩
            · have HU := Lib.hid (⟨m, hm1, hsz, hu⟩ : ∃ n, 1 ≤ n ∧ t.size = n + 1 ∧ unBr (s.data.toList.take i) = (t.extract 1 n).data.toList)
              clear hu
              go_wp2
              go_meet
              case rel => exact ⟨rfl, true, rfl, (by simp), (fun _ => HU.out)⟩
          case rest =>
            obtain ⟨rfl, bb, rfl, hbf, hbt⟩ := hcut
            go_upto_if 47 with fail
            go_cut [6] (fun s6 wx => w' = wx ∧ ∃ tb : ByteArray, s6 = .string tb ∧ tb.size ≤ 1000 ∧ unBr (s.data.toList.take i) = tb.data.toList)
            case first =>
              cases bb with
              | false =>
                have HU := Lib.hid (hbf rfl)
                clear hbf hbt
                go_wp2
                go_meet
                case rel => exact ⟨rfl, t, rfl, htz, HU.out⟩
              | true =>
                obtain ⟨m, hm1, hsz, hu⟩ := hbt rfl
                have HU := Lib.hid hu
                have hez : (t.extract 1 m).size ≤ 1000 := by rw [ByteArray.size_extract]; omega
                have HEZ := Lib.hid hez
                clear hbf hbt hu hez
                go_wp2
                go_meet
                case rel => exact ⟨rfl, t.extract 1 m, rfl, HEZ.out, HU.out⟩
            case rest =>
              obtain ⟨rfl, tb, rfl, htbz, hub⟩ := hcut
              have hpa := fun w => HPAR.out tb htbz w
              have hl16 := paL_len tb
              have hht := HHT.out
              rw [hub, ← par_same] at hht
              have hfacts : (paK tb = false → hitR s.data.toList i = none) ∧ (paK tb = true → ((reB theHh (paB tb) (paL tb) (n : Int)).toList == s.toList) = false → hitR s.data.toList i = none) ∧
                  (paK tb = true → ((reB theHh (paB tb) (paL tb) (n : Int)).toList == s.toList) = true → hitR s.data.toList i = some ((paB tb, paL tb), n)) := by
                unfold paK paB paL paP
                cases hq : parA tb.data.toList with
                | none =>
                  rw [hq] at hht
                  exact ⟨fun _ => hht, (fun h => by cases h), (fun h => by cases h)⟩
                | some a =>
                  rw [hq] at hht
                  obtain ⟨v, l⟩ := a
                  have hok : okA (v, l) := par_okA (by rw [← par_same]; exact hq)
                  have hre : reB theHh v l (n : Int) = mkB (endsL ((v, l), n)) := by
                    rw [← enB_L theHh hok]
                    unfold enB reB; rw [hok.2]; rfl
                  refine ⟨(fun h => by cases h), fun _ hb => ?_, fun _ hb => ?_⟩
                  · have hb' : ((reB theHh v l (n : Int)).toList == s.toList) = false := hb
                    rw [hre, ByteArray.toList_eq, ByteArray.toList_eq, data_mkB, beq_eq_false_iff_ne] at hb'
                    rw [hht, Option.bind_some, if_neg hb']
                  · have hb' : ((reB theHh v l (n : Int)).toList == s.toList) = true := hb
                    rw [hre, ByteArray.toList_eq, ByteArray.toList_eq, data_mkB, beq_iff_eq] at hb'
                    rw [hht, Option.bind_some, if_pos hb']; rfl
              have hen := fun w hw => rends_call hR theHh (paB tb) hl16 (n : Int) (by omega) (by omega) w hw
              obtain ⟨E, hE'⟩ : ∃ E, reB theHh (paB tb) (paL tb) (n : Int) = E := ⟨_, rfl⟩
              rw [hE'] at hfacts hen
              obtain ⟨v, hv⟩ : ∃ v, paB tb = v := ⟨_, rfl⟩
              obtain ⟨l, hl2⟩ : ∃ l, paL tb = l := ⟨_, rfl⟩
              obtain ⟨kk, hkk⟩ : ∃ kk, paK tb = kk := ⟨_, rfl⟩
              rw [hv, hl2, hkk] at hpa hfacts
              rw [hv, hl2] at hen
              have hpa2 : ∀ w : World, Calls Tryz.prog 16 #[.string tb] w fun e w' => e = .returned (.tuple #[.agg (adrC v l).toArray, .bool kk]) ∧ Below w.heap.size w w' := hpa
              have hen2 : ∀ w : World, Held w → Calls Tryz.prog 14 #[.agg (endsC v l (n : Int)).toArray] w fun e w' => e = .returned (.string E) ∧ Below w.heap.size w w' := hen
              have hn16 : ((n : Nat) : Int) % 65536 = (n : Int) := by omega
              obtain ⟨hf1, hf2, hf3⟩ := hfacts
              have HPA := Lib.hid hpa2; have HEN := Lib.hid hen2; have HF1 := Lib.hid hf1; have HF2 := Lib.hid hf2; have HF3 := Lib.hid hf3
              clear hpa hpa2 hen hen2 hf1 hf2 hf3 hE' hv hl2 hkk hht hub hl16 hbf hbt HBR HPAR
              go_upto_region 11 with (first
                | (go_at_call 16; refine (HPA.out _).mono ?_; rintro e w3 ⟨rfl, hb3⟩; have HE3 := Lib.hid (keepW HE0.out hb3); have HR3 := Lib.hid (Blk.keep hb3 HB0.out); clear hb3)
                | (refine store_fin rfl _ _ _ rfl rfl w3.heap.size (adrC v l).toArray rfl rfl _ _ (Blk.new rfl) infoAddr rfl (adrC_one v l) w (HE3.out.alloc HE3.out.size _) HE3.out.size ?_; intro w4 hb4 he4 hk4; have HB4 := Lib.hid hb4; have HE4 := Lib.hid he4; have HR4 := Lib.hid (hk4 _ _ _ (Nat.ne_of_lt HR3.out.lt) (HR3.out.old _)); clear hb4 he4 hk4)
                | (refine load_mid_w rfl _ _ rfl w3.heap.size 0 rfl (adrC v l) _ (Blk.range (cs := (adrC v l).toArray) HB4.out) Tryz.underlying24 rfl infoAddr ?_)
                | (refine build_to rfl _ _ rfl _ rfl (endsC v l (n : Int)).toArray (by kernel_rfl) ?_)
                | (refine store_fin rfl _ _ _ rfl rfl w4.heap.size (endsC v l (n : Int)).toArray rfl rfl _ _ (Blk.new rfl) infoEnds rfl (endsC_one v l _) w (HE4.out.alloc HE4.out.size _) HE4.out.size ?_; intro w5 hb5 he5 hk5; have HB5 := Lib.hid hb5; have HE5 := Lib.hid he5; have HR5 := Lib.hid (hk5 _ _ _ (Nat.ne_of_lt HR4.out.lt) (HR4.out.old _)); clear hb5 he5 hk5))
              cases kk with
              | false =>
                have HM := Lib.hid (HMI.out (HF1.out rfl))
                go_wp2
                go_roundw
                case rel => exact ⟨i + 1, by omega, by go_num, HM.out, HR5.out, HE5.out⟩
                case measure => simp [natOf]; omega
              | true =>
                cases hq : (E.toList == s.toList)
                · have HM := Lib.hid (HMI.out (HF2.out rfl hq))
                  go_wp2_with (first
                  | (refine load_mid_w rfl _ _ rfl w4.heap.size 0 rfl (endsC v l (n : Int)) _ (Blk.range (cs := (endsC v l (n : Int)).toArray) HB5.out) Tryz.underlying32 rfl infoEnds ?_)
                  | (go_at_call 14; refine (HEN.out _ (HW.out.below HE5.out)).mono ?_; rintro e w6 ⟨rfl, hb6⟩; have HE6 := Lib.hid (keepW HE5.out hb6); have HR6 := Lib.hid (Blk.keep hb6 HR5.out); have HB6 := Lib.hid (Blk.keep hb6 HB5.out); clear hb6))
                  go_roundw
                  case rel => exact ⟨i + 1, by omega, by go_num, HM.out, HR6.out, HE6.out⟩
                  case measure => simp [natOf]; omega
                · have HV := Lib.hid (HVS.out ((v, l), n) (HHI.out _ (HF3.out rfl hq)))
                  go_wp2_with (first
                  | (refine load_mid_w rfl _ _ rfl w4.heap.size 0 rfl (endsC v l (n : Int)) _ (Blk.range (cs := (endsC v l (n : Int)).toArray) HB5.out) Tryz.underlying32 rfl infoEnds ?_)
                  | (go_at_call 14; refine (HEN.out _ (HW.out.below HE5.out)).mono ?_; rintro e w6 ⟨rfl, hb6⟩; have HE6 := Lib.hid (keepW HE5.out hb6); have HR6 := Lib.hid (Blk.keep hb6 HR5.out); have HB6 := Lib.hid (Blk.keep hb6 HB5.out); clear hb6)
                  | (refine load_mid_w rfl _ _ rfl w4.heap.size 0 rfl (endsC v l (n : Int)) _ (Blk.range (cs := (endsC v l (n : Int)).toArray) HB6.out) Tryz.underlying32 rfl infoEnds ?_)
                  | (refine store_fin rfl _ _ _ rfl rfl w.heap.size (endsC v l (n : Int)).toArray rfl rfl _ _ HR6.out infoEnds rfl (endsC_one _ _ _) w HE6.out (Nat.le_refl _) ?_; intro w8 hb8 he8 _; have HB8 := Lib.hid hb8; have HE8 := Lib.hid he8; clear hb8 he8))
                  first
                    | refine bodyPost_ret (ret_row rfl _ _ w.heap.size _ _ _ rfl HB8.out Tryz.underlying32 rfl infoEnds) rfl ⟨?_, HE8.out⟩
                    | (simp only [Exit.inBlock, Exit.then]; refine bodyPost_ret (ret_row rfl _ _ w.heap.size _ _ _ rfl HB8.out Tryz.underlying32 rfl infoEnds) rfl ⟨?_, HE8.out⟩)
                  rw [HV.out]; rfl
      · have hcb : ((((s[i]'his).toNat : Nat) : Int) != 58) = true := by
          rw [bne_iff_ne]; exact fun e => hc (u8_eq (by have : (58 : UInt8).toNat = 58 := rfl; omega))
        have hm := HMI.out (by unfold hitR; rw [hci, if_neg (fun h => hc (Option.some.inj h))])
        obtain ⟨r, hr⟩ : ∃ r : Int, (match numL 65535 (s.data.toList.drop (i + 1)) with
          | some n => (n : Int)
          | none => -1) = r := ⟨_, rfl⟩
        rw [hr] at hnum
        have HN := Lib.hid hnum; have HM := Lib.hid hm
        clear hnum hm hr hci hc
        go_wp2_with (go_at_call 36; refine (HN.out _).mono ?_; rintro e w' ⟨rfl, rfl⟩)
        go_roundw
        case rel => exact ⟨i + 1, by omega, by go_num, HM.out, HB0.out, HE0.out⟩
        case measure => simp [natOf]; omega
    · have hv := HVN.out (findR_end (by omega) hf)
      have HV := Lib.hid hv; have HB0 := Lib.hid hR0; have HE0 := Lib.hid hE
      clear hv hR0 hE hf
      go_wp2_with (refine store_fin rfl _ _ _ rfl rfl w.heap.size (endsC false [] 0).toArray rfl rfl _ _ HB0.out infoEnds rfl (endsC_one _ _ _) w HE0.out (Nat.le_refl _) ?_; intro w8 hb8 he8 _; have HB8 := Lib.hid hb8; have HE8 := Lib.hid he8; clear hb8 he8)
      first
        | refine bodyPost_ret (ret_row rfl _ _ w.heap.size _ _ _ rfl HB8.out Tryz.underlying32 rfl infoEnds) rfl ⟨?_, HE8.out⟩
        | (simp only [Exit.inBlock, Exit.then]; refine bodyPost_ret (ret_row rfl _ _ w.heap.size _ _ _ rfl HB8.out Tryz.underlying32 rfl infoEnds) rfl ⟨?_, HE8.out⟩)
      rw [HV.out]; rfl
end Go.Proofs.YtmfdnbjmfgljlaaGreatDoor


/-
  The document's readings, as oracles.
-/



namespace Go.Proofs.YtmfdnbjmfgljlaaGreatDoor

open Go.Den Go.RowKit
noncomputable section
set_option maxRecDepth 100000

set_option linter.unusedSectionVars false

variable [Inhabited Root]

def rparS : Array Value → Option (Bool × Value)
  | ⟨[.string s]⟩ => some (decide (s.size ≤ 1000), vrp s)
  | _ => none
def pkRParse : PK Tryz.prog where
  f := 16
  spec := rparS
  body := by kernel_rfl
  ok := fun args r hr hok => by
    unfold rparS at hr
    split at hr
    · cases hr
      rw [decide_eq_true_eq] at hok
      exact ⟨all_bel rfl, rfl, fun w _ => parse5_walk _ hok w⟩
    · cases hr
def rpendsS : Array Value → Option (Bool × Value)
  | ⟨[.string s]⟩ => some (decide (s.size ≤ 1000), vpr s)
  | _ => none
def pkRPEnds (hR : Ra) : PK Tryz.prog where
  f := 18
  spec := rpendsS
  body := by kernel_rfl
  ok := fun args r hr hok => by
    unfold rpendsS at hr
    split at hr
    · cases hr
      rw [decide_eq_true_eq] at hok
      exact ⟨all_bel rfl, rfl, fun w hw => pends5_walk hR (fun t ht w => parse5_walk t ht w) _ hok w hw⟩
    · cases hr
def memsM5 [Inhabited Names] (hR : Ra) (X : Hh) : List (PM Tryz.prog) := pkRParse.mem :: (pkRPEnds hR).mem :: memsL5 hR X
def envM5 [Inhabited Names] (hR : Ra) (X : Hh) : Env Tryz.prog := envS.mem false (memsM5 hR X)
end

end Go.Proofs.YtmfdnbjmfgljlaaGreatDoor


/-
  AddrParses: its reading.
-/

namespace Go.Proofs.YtmfdnbjmfgljlaaGreatDoor

open Go.Den Go.RowKit
noncomputable section
set_option maxRecDepth 100000

set_option linter.unusedSectionVars false

variable [Inhabited Root]

def psK0 (s : ByteArray) : Bool := decide ((↑(ByteArray.size s) : Int) > 200)
def psK1 (s : ByteArray) : Bool := decide (ByteArray.size s ≤ 1048576)
def psK2 (s : ByteArray) : Bool := decide (ByteArray.size s ≤ 1000)
def psK3 (s : ByteArray) : Bool := !(eqB (paB s) (paL s) (paB s) (paL s))
def psK4 (s : ByteArray) : Bool := eqB (peB s) (peL s) (peB s) (peL s) && (peP s == peP s && true)
def psK5 (s : ByteArray) : Bool := !(paB s == false && (bt (paL s) 0 == 0 && (bt (paL s) 1 == 0 && (bt (paL s) 2 == 0 && (bt (paL s) 3 == 0 && (bt (paL s) 4 == 0 && (bt (paL s) 5 == 0 && (bt (paL s) 6 == 0 && (bt (paL s) 7 == 0 && (bt (paL s) 8 == 0 && (bt (paL s) 9 == 0 && (bt (paL s) 10 == 0 && (bt (paL s) 11 == 0 && (bt (paL s) 12 == 0 && (bt (paL s) 13 == 0 && (bt (paL s) 14 == 0 && (bt (paL s) 15 == 0 && true))))))))))))))) && true))
def psR0 (hR : Ra) (X : Hh) (s : ByteArray) : Tree VR := ((ev (envM5 hR X) 80).call [] 4 #[.string s] [] B0)
theorem psx_way (hR : Ra) (X : Hh) (s : ByteArray) : (psR0 hR X s).way [(8, true)] = some ([psK0 s], Value.bool true) := by kernel_rfl
theorem pstt_way (hR : Ra) (X : Hh) (s : ByteArray) : (psR0 hR X s).way [(8, false), (2, true), (6, true), (3, true), (5, true), (18, false), (30, true), (6, true), (3, true), (5, true), (12, true)] = some ([psK0 s, psK1 s, psK2 s, paK s, paE s == 0, psK3 s, psK1 s, psK2 s, peK s, peE s == 0, psK4 s], Value.bool true) := by kernel_rfl
theorem pstf_way (hR : Ra) (X : Hh) (s : ByteArray) : (psR0 hR X s).way [(8, false), (2, true), (6, true), (3, true), (5, true), (18, false), (30, true), (6, true), (3, false), (5, false), (12, true), (14, true)] = some ([psK0 s, psK1 s, psK2 s, paK s, paE s == 0, psK3 s, psK1 s, psK2 s, peK s, peE s == 0, psK4 s, peE s == 9], Value.bool true) := by kernel_rfl
theorem psft_way (hR : Ra) (X : Hh) (s : ByteArray) : (psR0 hR X s).way [(8, false), (2, true), (6, true), (3, false), (5, false), (35, false), (9, false), (10, true), (6, true), (3, true), (5, true), (12, true)] = some ([psK0 s, psK1 s, psK2 s, paK s, paE s == 0, paE s != 9, psK5 s, psK1 s, psK2 s, peK s, peE s == 0, psK4 s], Value.bool true) := by kernel_rfl
theorem psff_way (hR : Ra) (X : Hh) (s : ByteArray) : (psR0 hR X s).way [(8, false), (2, true), (6, true), (3, false), (5, false), (35, false), (9, false), (10, true), (6, true), (3, false), (5, false), (12, true), (14, true)] = some ([psK0 s, psK1 s, psK2 s, paK s, paE s == 0, paE s != 9, psK5 s, psK1 s, psK2 s, peK s, peE s == 0, psK4 s, peE s == 9], Value.bool true) := by kernel_rfl
theorem eqB_refl (v : Bool) (l : List UInt8) : eqB v l v l = true := by unfold eqB; simp only [beq_self_eq_true]; rfl
theorem addrParses_walk (hR : Ra) (s : ByteArray) (w : World) (hw : Held w) :
    Calls Tryz.prog 4 #[.string s] w fun e w' => e = .returned (.bool true) ∧ Below w.heap.size w w' := by
  have hcall : ∀ {t : Tree VR} {q : List (Nat × Bool)} {cs : List Bool}, (ev (envM5 hR theHh) 80).call [] 4 #[.string s] [] B0 = t → t.way q = some (cs, .bool true) → cs = q.map (·.2) →
      Calls Tryz.prog 4 #[.string s] w fun e w' => e = .returned (.bool true) ∧ Below w.heap.size w w' :=
    fun ht hp he => calls_way (envM5 hR theHh) hcokP 80 ht hp he (all_bel rfl) rfl w hw
  generalize hX : theHh = X at *
  by_cases hz : (s.size : Int) > 200
  · have k9 : decide ((s.size : Int) > 200) = true := decide_eq_true hz
    exact hcall rfl (psx_way hR X s) (by simp only [psK0, k9]; rfl)
  · have k9 : decide ((s.size : Int) > 200) = false := decide_eq_false hz
    have ks1 : decide (s.size ≤ 1048576) = true := decide_eq_true (by omega)
    have ks2 : decide (s.size ≤ 1000) = true := decide_eq_true (by omega)
    have ea := eqB_refl (paB s) (paL s)
    have ee := eqB_refl (peB s) (peL s)
    have ep : (peP s == peP s) = true := beq_self_eq_true _
    have e00 : ((0 : Int) == 0) = true := rfl
    have e90 : ((9 : Int) == 0) = false := rfl
    have e99 : ((9 : Int) == 9) = true := rfl
    have n99 : ((9 : Int) != 9) = false := rfl
    cases ha : paK s
    · have a1 : paE s = 9 := by unfold paE; rw [ha]; rfl
      have hn : paP s = none := by unfold paK at ha; exact Option.isNone_iff_eq_none.1 (by rw [← Option.not_isSome, ha]; rfl)
      have a2 : paB s = false := by unfold paB; rw [hn]; rfl
      have a3 : paL s = List.replicate 16 0 := by unfold paL; rw [hn]; rfl
      cases he : peK s
      · have b1 : peE s = 9 := by unfold peE; rw [he]; rfl
        exact hcall rfl (psff_way hR X s) (by simp only [psK0, psK1, psK2, psK5, psK4, k9, ks1, ks2, ee, ep, e90, e99, n99, ha, a1, a2, a3, he, b1]; rfl)
      · have b1 : peE s = 0 := by unfold peE; rw [he]; rfl
        exact hcall rfl (psft_way hR X s) (by simp only [psK0, psK1, psK2, psK5, psK4, k9, ks1, ks2, ee, ep, e00, e90, n99, ha, a1, a2, a3, he, b1]; rfl)
    · have a1 : paE s = 0 := by unfold paE; rw [ha]; rfl
      cases he : peK s
      · have b1 : peE s = 9 := by unfold peE; rw [he]; rfl
        exact hcall rfl (pstf_way hR X s) (by simp only [psK0, psK1, psK2, psK3, psK4, k9, ks1, ks2, ea, ee, ep, e00, e90, e99, ha, a1, he, b1]; rfl)
      · have b1 : peE s = 0 := by unfold peE; rw [he]; rfl
        exact hcall rfl (pstt_way hR X s) (by simp only [psK0, psK1, psK2, psK3, psK4, k9, ks1, ks2, ea, ee, ep, e00, ha, a1, he, b1]; rfl)
end

end Go.Proofs.YtmfdnbjmfgljlaaGreatDoor
