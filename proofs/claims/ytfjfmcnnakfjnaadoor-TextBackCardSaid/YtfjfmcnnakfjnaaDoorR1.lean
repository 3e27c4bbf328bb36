/-
  Own texts, merged: BkA BkB BkW TxM TxN
-/
import Derived.Test.YtfjfmcnnakfjnaaDoorQ4


/-
  Fields joined by a blank are the line; what a text's number says of the text.
-/

namespace Go.Proofs.YtfjfmcnnakfjnaaDoor

open Go.Den Go.RowKit

set_option maxRecDepth 100000

theorem ext_list (s : ByteArray) (a b : Nat) : (s.extract a b).data.toList = (s.data.toList.take b).drop a := by
  rw [ByteArray.data_extract, Array.toList_extract]
  simp [List.extract, List.drop_take]
theorem join_split : ∀ (k : Nat) (s : ByteArray), Lib.join ((Lib.splitB ⟨#[32]⟩ 0 k s).map (·.data.toList)) [32] = s.data.toList := by
  intro k
  induction k with
  | zero => intro s; exact Lib.join_one _ _
  | succ k ih =>
    intro s
    rcases Lib.indexB_cases s ⟨#[32]⟩ with h | ⟨i, h, hi⟩
    · rw [Lib.splitB_miss _ _ _ _ h]; exact Lib.join_one _ _
    · rw [Lib.splitB_hit _ _ _ _ i h]
      have h2 : Lib.indexByte s.data.toList 32 = i := by rw [← Lib.index_one]; exact h
      obtain ⟨hc, _⟩ := Lib.indexByte_some h2
      have ih2 := ih (s.extract (i + 1) s.size)
      have hlt : i < s.data.toList.length := (List.getElem?_eq_some_iff.1 hc).1
      have hg : s.data.toList[i] = 32 := (List.getElem?_eq_some_iff.1 hc).2
      have hsz : s.data.toList.length = s.size := size_data s
      rw [List.map_cons]
      have e1 : (ByteArray.mk #[32]).size = 1 := rfl
      rw [e1]
      generalize hr : Lib.splitB ⟨#[32]⟩ 0 k (s.extract (i + 1) s.size) = r at ih2 ⊢
      have hl : s.data.toList = s.data.toList.take i ++ 32 :: s.data.toList.drop (i + 1) := by
        rw [← hg, List.getElem_cons_drop hlt, List.take_append_drop]
      rw [ext_list, Nat.add_zero, List.drop_zero, Lib.join_cons]
      rw [ext_list, List.take_of_length_le (by omega)] at ih2
      conv => rhs; rw [hl, ← ih2]
      congr 1
      cases r with
      | nil => cases k <;> simp [Lib.splitB] at hr
               split at hr <;> cases hr
      | cons y r =>
        rw [List.map_cons, Lib.join_cons]
        simp [Lib.joinTail]
theorem strsIn_strs (l : List ByteArray) : strsIn (l.map Value.string) = l := by
  unfold strsIn
  rw [List.map_map]
  conv => rhs; rw [← List.map_id l]
  rfl
theorem isStr_strs (l : List ByteArray) : allV isStr (l.map Value.string) = true := by
  rw [allV_eq, List.all_eq_true]
  intro v hv
  obtain ⟨c, _, rfl⟩ := List.mem_map.1 hv
  rfl
theorem fext_all (l : List Value) (n : Nat) (h : n = l.length) : (fext ⟨l⟩ 0 (0 + n)).toList = l := by
  subst h
  rw [fext_eq]
  have : 0 + l.length = (Array.mk l).size := by show _ = l.length; omega
  rw [this, Array.extract_size]
theorem joinS_fields (s : ByteArray) : joinS ((fieldsS s).map Value.string) ⟨#[32]⟩ = s := by
  unfold joinS
  rw [strsIn_strs]
  have : (Lib.join ((fieldsS s).map (·.data.toList)) [32]).toArray = s.data := by rw [fieldsS, join_split]
  exact congrArg ByteArray.mk this
theorem join_ok (s : ByteArray) (h : s.size ≤ 1000) : (Nat.ble (0 + (fieldsS s).length) (Array.mk ((fieldsS s).map Value.string)).size && (decide ((fieldsS s).length ≤ 1048577) && (Nat.ble (Nat.succ (fieldsS s).length) 1099511627776 && (Nat.ble (fieldsS s).length (fieldsS s).length && (allV isStr (fext ⟨(fieldsS s).map Value.string⟩ 0 (0 + (fieldsS s).length)).toList && decide ((joinS (fext ⟨(fieldsS s).map Value.string⟩ 0 (0 + (fieldsS s).length)).toList ⟨⟨[32]⟩⟩).size ≤ 140737488355328)))))) = true := by
  have hl := fieldsS_le s
  rw [fext_all _ _ (List.length_map ..).symm, isStr_strs]
  have : joinS ((fieldsS s).map Value.string) ⟨⟨[32]⟩⟩ = s := joinS_fields s
  rw [this]
  simp only [Bool.and_eq_true, Nat.ble_eq, decide_eq_true_eq]
  refine ⟨?_, by omega, by omega, Nat.le_refl _, trivial, by omega⟩
  show _ ≤ ((fieldsS s).map Value.string).length
  rw [List.length_map]; omega
theorem join_eq (s : ByteArray) : ((joinS (fext ⟨(fieldsS s).map Value.string⟩ 0 (0 + (fieldsS s).length)).toList ⟨⟨[32]⟩⟩).toList == s.toList) = true := by
  rw [fext_all _ _ (List.length_map ..).symm]
  have : joinS ((fieldsS s).map Value.string) ⟨⟨[32]⟩⟩ = s := joinS_fields s
  rw [this]; simp
theorem count_eq (s : ByteArray) : Lib.countB s ⟨#[32]⟩ = Lib.countByte s.data.toList 32 := Lib.count_one 32 s.data.toList
theorem wrap_small {n : Nat} (h : n ≤ 1048576) : IntKind.wrap .i64 ((n : Int) + 1) = (n : Int) + 1 := by
  simp [IntKind.wrap, IntKind.signed, IntKind.bits]; omega
theorem count_ok (s : ByteArray) (h : s.size ≤ 1000) : decide (((fieldsS s).length : Int) ≤ IntKind.wrap .i64 (((Lib.countByte s.1.toList 32 : Nat) : Int) + 1)) = true := by
  have hl := fieldsS_len s
  rw [count_eq] at hl
  have hle := fieldsS_le s
  have : Lib.countByte s.1.toList 32 = Lib.countByte s.data.toList 32 := rfl
  rw [this, wrap_small (by omega), hl, decide_eq_true_eq]; omega
theorem count_zero (s : ByteArray) (h : s.size ≤ 1000) : decide ((0 : Int) ≤ IntKind.wrap .i64 (((Lib.countByte s.1.toList 32 : Nat) : Int) + 1)) = true := by
  have hl := fieldsS_len s
  rw [count_eq] at hl
  have hle := fieldsS_le s
  have : Lib.countByte s.1.toList 32 = Lib.countByte s.data.toList 32 := rfl
  rw [this, wrap_small (by omega), decide_eq_true_eq]; omega
theorem fields_pos (s : ByteArray) : (((fieldsS s).length : Int) == 0) = false := by
  have := fieldsS_len s
  rw [beq_eq_false_iff_ne]; omega
end Go.Proofs.YtfjfmcnnakfjnaaDoor


/-
  What a text says of its number, and the other way round.
-/

namespace Go.Proofs.YtfjfmcnnakfjnaaDoor

open Go.Den Go.RowKit
noncomputable section
set_option maxRecDepth 100000

set_option linter.unusedSectionVars false

variable [Inhabited Root]

theorem tx_data (n : Int) : (tx n).data.toList = Lib.itoa n := by unfold tx; rfl
theorem udK_tx {n : Int} (h0 : -9223372036854775808 ≤ n) (h1 : n ≤ 9223372036854775807) : udK (tx n) = true := by unfold udK; rw [tx_data, ud_itoa h0 h1]; rfl
theorem udV_tx {n : Int} (h0 : -9223372036854775808 ≤ n) (h1 : n ≤ 9223372036854775807) : udV (tx n) = n := by unfold udV; rw [tx_data, ud_itoa h0 h1]; rfl
theorem uuK_tx {n : Int} (h0 : 0 ≤ n) (h1 : n ≤ 18446744073709551615) : uuK (tx n) = true := by unfold uuK; rw [tx_data, uu_itoa h0 h1]; rfl
theorem uuV_tx {n : Int} (h0 : 0 ≤ n) (h1 : n ≤ 18446744073709551615) : uuV (tx n) = n := by unfold uuV; rw [tx_data, uu_itoa h0 h1]; rfl
theorem uwK_tx {n : Int} (h : InR n) : uwK (tx n) = true := by unfold uwK; rw [tx_data, uw_itoa h]; rfl
theorem uwV_tx {n : Int} (h : InR n) : uwV (tx n) = n := by unfold uwV; rw [tx_data, uw_itoa h]; rfl
theorem tx_of {l : List UInt8} {s : ByteArray} {v : Int} (hl : l = s.data.toList) (h : Lib.itoa v = l) : tx v = s := by
  unfold tx; rw [h, hl]
theorem udV_ok {s : ByteArray} (h : udK s = true) : okI (udV s) = true ∧ tx (udV s) = s := by
  unfold udK at h; unfold udV
  obtain ⟨v, hv⟩ := Option.isSome_iff_exists.1 h
  obtain ⟨a, b, c⟩ := ud_some hv
  rw [hv]
  exact ⟨okI_iff.2 ⟨b, c⟩, tx_of rfl a⟩
theorem uuV_ok {s : ByteArray} (h : uuK s = true) : okU (uuV s) = true ∧ tx (uuV s) = s := by
  unfold uuK at h; unfold uuV
  obtain ⟨v, hv⟩ := Option.isSome_iff_exists.1 h
  obtain ⟨a, b, c⟩ := uu_some hv
  rw [hv]
  exact ⟨okU_iff.2 ⟨b, c⟩, tx_of rfl a⟩
theorem uwV_ok {s : ByteArray} (h : uwK s = true) : tx (uwV s) = s := by
  unfold uwK at h; unfold uwV
  obtain ⟨v, hv⟩ := Option.isSome_iff_exists.1 h
  rw [hv]
  exact tx_of rfl (uw_some hv).1
theorem no_uw {s : ByteArray} (h : uwK s = false) : udK s = false ∧ uuK s = false := by
  unfold uwK at h
  have hn : uwS s.data.toList = none := by
    cases e : uwS s.data.toList with
    | none => rfl
    | some v => rw [e] at h; cases h
  unfold udK uuK udS uuS
  rw [hn]
  exact ⟨rfl, rfl⟩
theorem itoa_ne (v : Int) : Lib.itoa v ≠ [] := by
  unfold Lib.itoa
  split
  · intro h; cases h
  · exact decDigits_ne _
theorem data_nil {s : ByteArray} (h : s.size = 0) : s = ⟨#[]⟩ := by
  have : s.data.size = 0 := h
  obtain ⟨d⟩ := s
  congr 1
  exact Array.size_eq_zero_iff.1 this
theorem empty_k {s : ByteArray} (h : s.size = 0) : udK s = false ∧ uuK s = false ∧ uwK s = false ∧ unhexK s = true := by
  rw [data_nil h]
  have h1 : uwK ⟨#[]⟩ = false := by
    cases e : uwK ⟨#[]⟩ with
    | false => rfl
    | true =>
      unfold uwK at e
      obtain ⟨v, hv⟩ := Option.isSome_iff_exists.1 e
      have := (uw_some hv).1
      have h2 : Lib.itoa v ≠ [] := itoa_ne v
      exact absurd this h2
  obtain ⟨h2, h3⟩ := no_uw h1
  exact ⟨h2, h3, h1, by rfl⟩
theorem empty_eq {s : ByteArray} (h : s.size = 0) : (ByteArray.toList ⟨⟨[]⟩⟩ == s.toList) = true := by rw [data_nil h]; exact beq_self_eq_true (ByteArray.toList ⟨#[]⟩)
theorem empty_eq2 {s : ByteArray} (h : s.size = 0) : (s.toList == ByteArray.toList ⟨⟨[]⟩⟩) = true := by rw [data_nil h]; exact beq_self_eq_true (ByteArray.toList ⟨#[]⟩)
theorem nonempty_eq {s : ByteArray} (h : ¬ s.size = 0) : (s.toList == ByteArray.toList ⟨⟨[]⟩⟩) = false := by
  rw [beq_eq_false_iff_ne]
  intro e
  rw [ByteArray.toList_eq, ByteArray.toList_eq] at e
  exact h (by rw [← size_data, e]; rfl)
theorem dw_ok {w : Int} (iw : InR w) : (okW (hi w) (lo w) && (decide (-170141183460469231731687303715884105729 < W2 (hi w) (lo w)) && decide (W2 (hi w) (lo w) < 170141183460469231731687303715884105729))) = true := by
  rw [okW_hilo iw, W2_hilo]
  unfold InR at iw
  simp only [Bool.and_eq_true, decide_eq_true_eq]
  exact ⟨trivial, by omega, by omega⟩
theorem args_ok8 {off : Nat} (l : List UInt8) : (Nat.beq off off && (Nat.beq l.length (u8L l).length && allV isU8 (u8L l))) = true := by
  rw [isU8_u8L, u8L_len]
  simp only [Bool.and_eq_true, Nat.beq_eq]
  exact ⟨trivial, trivial, trivial⟩
theorem unhexV_len {s : ByteArray} (h : s.size ≤ 1000) : (unhexV s).length ≤ 1000 := by
  rcases unhex_cases s with ⟨h1, h2⟩ | ⟨n, h1, h2, h3⟩ | ⟨n, h1, h2, h3, h4, h5⟩
  · unfold unhexK at h2; unfold unhexV
    cases e : unhexL s.data.toList with
    | none => exact Nat.zero_le _
    | some v => rw [e] at h2; cases h2
  · unfold unhexK at h3; unfold unhexV
    cases e : unhexL s.data.toList with
    | none => exact Nat.zero_le _
    | some v => rw [e] at h3; cases h3
  · omega
theorem unhex_ok (s : ByteArray) (h : s.size ≤ 1000) : (Nat.ble (0 + (unhexV s).length) (Array.mk (u8L (unhexV s))).size && (decide ((unhexV s).length ≤ 1048576) && allV isB8 (fext ⟨u8L (unhexV s)⟩ 0 (0 + (unhexV s).length)).toList)) = true := by
  have := unhexV_len h
  rw [fext_u8L, isB8_u8L]
  simp only [Bool.and_eq_true, Nat.ble_eq, decide_eq_true_eq]
  refine ⟨?_, by omega, trivial⟩
  show _ ≤ (u8L (unhexV s)).length
  rw [u8L_len]; omega
theorem hex_back {s : ByteArray} (h : unhexK s = true) : hexS (fext ⟨u8L (unhexV s)⟩ 0 (0 + (unhexV s).length)).toList = s := by
  rw [fext_u8L, hexS_u8L]
  unfold unhexK at h; unfold unhexV
  obtain ⟨v, hv⟩ := Option.isSome_iff_exists.1 h
  rw [hv]
  show ByteArray.mk (hexL v).toArray = s
  rw [hex_unhex hv]
theorem cmp_less {v w : Int} (iv : InR v) (iw : InR w) (hv : hi v ≥ 0) (hw : hi w ≥ 0) (h : (((tx (W2 (hi v) (lo v))).size : Nat) : Int) < (((tx (W2 (hi w) (lo w))).size : Nat) : Int)) :
    decide (cmpI (W2 (hi v) (lo v)) (W2 (hi w) (lo w)) ≥ 0) = false := by
  rw [W2_hilo, W2_hilo] at *
  have e : ∀ n : Int, (tx n).size = (Lib.itoa n).length := fun n => by rw [← size_data, tx_data]
  rw [e, e] at h
  have v0 : 0 ≤ v := by unfold hi at hv; unfold InR at iv; omega
  have w0 : 0 ≤ w := by unfold hi at hw; unfold InR at iw; omega
  have hlt := itoa_shorter v0 w0 (by omega)
  unfold cmpI
  rw [if_neg (by omega), if_pos hlt]
  rfl
end

end Go.Proofs.YtfjfmcnnakfjnaaDoor


/-
  One way through a reading, told shortly: how many partings are settled by the reading alone, then which side is taken.
-/

namespace Go.Den

open Go.RowKit
noncomputable section
def Tree.way (t : Tree VR) : List (Nat × Bool) → Option (List Bool × Value) :=
  Tree.rec (motive := fun _ => List (Nat × Bool) → Option (List Bool × Value))
    (fun a l => List.casesOn (motive := fun _ => Option (List Bool × Value)) l (some ([], a.v)) fun _ _ => none)
    (fun b _ _ iht ihf l => List.casesOn (motive := fun _ => Option (List Bool × Value)) l
      (Bool.casesOn (motive := fun _ => Option (List Bool × Value)) b (ihf []) (iht []))
      (fun p r => Nat.casesOn (motive := fun _ => Option (List Bool × Value)) p.1
        (Option.rec (motive := fun _ => Option (List Bool × Value)) none (fun q => some (b :: q.1, q.2)) (Bool.casesOn (motive := fun _ => Option (List Bool × Value)) p.2 (ihf r) (iht r)))
        (fun n => Bool.casesOn (motive := fun _ => Option (List Bool × Value)) b (ihf ((n, p.2) :: r)) (iht ((n, p.2) :: r)))))
    (fun _ => none) t
theorem Tree.way_run {v : Value} : ∀ {t : Tree VR} {l : List (Nat × Bool)} {cs : List Bool}, t.way l = some (cs, v) → cs = l.map (·.2) → ∃ r, t.run = some r ∧ r.v = v := by
  intro t
  induction t with
  | leaf a =>
    intro l cs h _
    cases l with
    | nil => cases h; exact ⟨a, rfl, rfl⟩
    | cons _ _ => cases h
  | br b x y ihx ihy =>
    intro l cs h he
    cases l with
    | nil =>
      change Bool.casesOn (motive := fun _ => Option (List Bool × Value)) b (y.way []) (x.way []) = some (cs, v) at h
      cases b
      · exact ihy h he
      · exact ihx h he
    | cons p r =>
      obtain ⟨k, c⟩ := p
      cases k with
      | succ n =>
        change Bool.casesOn (motive := fun _ => Option (List Bool × Value)) b (y.way ((n, c) :: r)) (x.way ((n, c) :: r)) = some (cs, v) at h
        cases b
        · exact ihy h he
        · exact ihx h he
      | zero =>
        change Option.rec (motive := fun _ => Option (List Bool × Value)) none (fun p => some (b :: p.1, p.2)) (Bool.casesOn (motive := fun _ => Option (List Bool × Value)) c (y.way r) (x.way r)) = some (cs, v) at h
        cases c
        · cases hp : y.way r with
          | none => simp only [hp] at h; cases h
          | some p =>
            simp only [hp] at h
            cases h
            obtain ⟨h1, h2⟩ := List.cons.inj he
            subst h1
            exact ihy (by rw [hp]) h2
        · cases hp : x.way r with
          | none => simp only [hp] at h; cases h
          | some p =>
            simp only [hp] at h
            cases h
            obtain ⟨h1, h2⟩ := List.cons.inj he
            subst h1
            exact ihx (by rw [hp]) h2
  | fail => intro l cs h _; cases h
theorem Tree.way_holds {v : Value} {t : Tree VR} {l : List (Nat × Bool)} {cs : List Bool} (h : t.way l = some (cs, v)) (he : cs = l.map (·.2)) : t.holds fun r => r.v = v := by
  obtain ⟨r, h1, h2⟩ := Tree.way_run h he
  exact Tree.holds_in h1 h2
end

end Go.Den


/-
  The ways through TextBack.
-/


namespace Go.Proofs.YtfjfmcnnakfjnaaDoor

open Go.Den Go.RowKit
noncomputable section
set_option maxRecDepth 100000

set_option linter.unusedSectionVars false

variable [Inhabited Root]

def bkK0 (s : ByteArray) : Bool := decide ((↑(ByteArray.size s) : Int) > 1000)
def bkK1 (bs : List UInt8) : Bool := decide ((↑(List.length bs) : Int) > 1000)
def bkK2 (wh : Int) (wl : Int) : Bool := okW wh wl && (decide (-170141183460469231731687303715884105729 < W2 wh wl) && decide (W2 wh wl < 170141183460469231731687303715884105729))
def bkK3 (off : Nat) (bs : List UInt8) : Bool := Nat.beq off off && (Nat.beq (List.length bs) (List.length (u8L bs)) && (decide (List.length bs ≤ 1048576) && allV isB8 (u8L bs)))
def bkK4 (bs : List UInt8) : Bool := decide (ByteArray.size (hexS (u8L bs)) ≤ 1048576)
def bkK5 (wh : Int) (wl : Int) : Bool := !(hi (uwV (tx (W2 wh wl))) == wh && (lo (uwV (tx (W2 wh wl))) == wl && true))
def bkK6 (bs : List UInt8) : Bool := Nat.ble (0 + List.length (unhexV (hexS (u8L bs)))) (Array.size { toList := u8L (unhexV (hexS (u8L bs))) }) && allV isU8 (Array.toList (fext { toList := u8L (unhexV (hexS (u8L bs))) } 0 (0 + List.length (unhexV (hexS (u8L bs))))))
def bkK7 (off : Nat) (bs : List UInt8) : Bool := Nat.beq off off && (Nat.beq (List.length bs) (List.length (u8L bs)) && allV isU8 (u8L bs))
def bkK8 (bs : List UInt8) : Bool := !ByteArray.toList (bytesOf (Array.toList (fext { toList := u8L (unhexV (hexS (u8L bs))) } 0 (0 + List.length (unhexV (hexS (u8L bs))))))) == ByteArray.toList (bytesOf (u8L bs))
def bkK9 (s : ByteArray) : Bool := decide (ByteArray.size s ≤ 1048576)
def bkK10 (vh : Int) (vl : Int) : Bool := okW vh vl && (decide (-170141183460469231731687303715884105729 < W2 vh vl) && decide (W2 vh vl < 170141183460469231731687303715884105729))
def bkK11 (s : ByteArray) : Bool := decide (ByteArray.size s = 0)
def bkK12 (s : ByteArray) : Bool := Nat.ble (0 + List.length (fieldsS s)) (Array.size { toList := List.map Value.string (fieldsS s) }) && (decide (List.length (fieldsS s) ≤ 1048577) && (Nat.ble (Nat.succ (List.length (fieldsS s))) 1099511627776 && (Nat.ble (List.length (fieldsS s)) (List.length (fieldsS s)) && (allV isStr (Array.toList (fext { toList := List.map Value.string (fieldsS s) } 0 (0 + List.length (fieldsS s)))) && decide (ByteArray.size (joinS (Array.toList (fext { toList := List.map Value.string (fieldsS s) } 0 (0 + List.length (fieldsS s)))) { data := { toList := [32] } }) ≤ 140737488355328)))))
def bkK13 (s : ByteArray) : Bool := ByteArray.toList (joinS (Array.toList (fext { toList := List.map Value.string (fieldsS s) } 0 (0 + List.length (fieldsS s)))) { data := { toList := [32] } }) == ByteArray.toList s
def bkK14 (s : ByteArray) : Bool := ByteArray.toList s == ByteArray.toList { data := { toList := [] } }
def bkK15 (s : ByteArray) : Bool := (↑(List.length (fieldsS s)) : Int) == 0
def bkK16 (s : ByteArray) : Bool := decide ((↑(List.length (fieldsS s)) : Int) ≤ IntKind.wrap IntKind.i64 ((↑(Lib.countByte (Array.toList s.1) 32) : Int) + 1))
def bkK17 (vh : Int) (vl : Int) (wh : Int) (wl : Int) : Bool := decide ((↑(ByteArray.size (tx (W2 vh vl))) : Int) < (↑(ByteArray.size (tx (W2 wh wl))) : Int))
def bkK18 (vh : Int) (vl : Int) (wh : Int) (wl : Int) : Bool := decide (cmpI (W2 vh vl) (W2 wh wl) ≥ 0)
def bkK19 (s : ByteArray) : Bool := Nat.ble (0 + List.length (unhexV s)) (Array.size { toList := u8L (unhexV s) }) && (decide (List.length (unhexV s) ≤ 1048576) && allV isB8 (Array.toList (fext { toList := u8L (unhexV s) } 0 (0 + List.length (unhexV s)))))
def bkK20 (s : ByteArray) : Bool := !ByteArray.toList (hexS (Array.toList (fext { toList := u8L (unhexV s) } 0 (0 + List.length (unhexV s))))) == ByteArray.toList s
def bkK21 (s : ByteArray) : Bool := okW (hi (uwV s)) (lo (uwV s)) && (decide (-170141183460469231731687303715884105729 < W2 (hi (uwV s)) (lo (uwV s))) && decide (W2 (hi (uwV s)) (lo (uwV s)) < 170141183460469231731687303715884105729))
def bkK22 (s : ByteArray) : Bool := !ByteArray.toList (tx (W2 (hi (uwV s)) (lo (uwV s)))) == ByteArray.toList s
def bkK23 (s : ByteArray) : Bool := !ByteArray.toList (tx (uuV s)) == ByteArray.toList s
def bkK24 (s : ByteArray) : Bool := !ByteArray.toList (tx (udV s)) == ByteArray.toList s
def bkK25 (s : ByteArray) : Bool := ByteArray.toList { data := { toList := [] } } == ByteArray.toList s
def bkK26 (s : ByteArray) : Bool := decide (0 ≤ IntKind.wrap IntKind.i64 ((↑(Lib.countByte (Array.toList s.1) 32) : Int) + 1))
def bkR0 (hR : Rt) (blk cap off : Nat) (bs : List UInt8) (hb : ∀ (j : Nat) v, (u8L bs)[j]? = some v → rootW.cell? ⟨blk, off + j, none⟩ = some v) (n u vh vl wh wl : Int) (s : ByteArray) : Tree VR := ((evB hR blk cap off bs hb).call [] 6 #[.int .i64 n, .int .u64 u, .agg #[.int .i64 vh, .int .u64 vl], .agg #[.int .i64 wh, .int .u64 wl], .slice (some ⟨B0, off, none⟩) bs.length (B0 + 1), .string s] [] (B0 + 2))
def bkR1 (hR : Rt) (n u vh vl wh wl : Int) (s : ByteArray) : Tree VR := ((evN hR).call [] 6 #[.int .i64 n, .int .u64 u, .agg #[.int .i64 vh, .int .u64 vl], .agg #[.int .i64 wh, .int .u64 wl], .slice none 0 0, .string s] [] B0)
theorem back_b1nnnna_way (hR : Rt) (blk cap off : Nat) (bs : List UInt8) (hb : ∀ (j : Nat) v, (u8L bs)[j]? = some v → rootW.cell? ⟨blk, off + j, none⟩ = some v) (n u vh vl wh wl : Int) (s : ByteArray) : (bkR0 hR blk cap off bs hb n u vh vl wh wl s).way [(10, false), (7, false), (4, true), (4, true), (4, true), (4, true), (4, true), (4, true), (4, true), (0, true), (0, true), (10, false), (18, false), (20, false), (17, true), (3, true), (2, false), (18, false), (19, false), (19, false), (15, true), (0, false), (20, true), (3, true), (9, false), (26, true), (0, false), (2, true), (2, true), (6, false), (5, false), (18, true)] = some ([bkK0 s, bkK1 bs, okI n, udK (tx n), okU u, uuK (tx u), bkK2 wh wl, uwK (tx (W2 wh wl)), bkK3 off bs, bkK4 bs, unhexK (hexS (u8L bs)), udV (tx n) != n, uuV (tx u) != u, bkK5 wh wl, bkK6 bs, bkK7 off bs, bkK8 bs, udK s, uuK s, uwK s, bkK9 s, unhexK s, bkK10 vh vl, bkK2 wh wl, decide (vh ≥ 0), bkK9 s, bkK11 s, bkK12 s, bkK13 s, bkK14 s, bkK15 s, bkK16 s], Value.bool true) := by kernel_rfl
theorem back_b1nnnnb_way (hR : Rt) (blk cap off : Nat) (bs : List UInt8) (hb : ∀ (j : Nat) v, (u8L bs)[j]? = some v → rootW.cell? ⟨blk, off + j, none⟩ = some v) (n u vh vl wh wl : Int) (s : ByteArray) : (bkR0 hR blk cap off bs hb n u vh vl wh wl s).way [(10, false), (7, false), (4, true), (4, true), (4, true), (4, true), (4, true), (4, true), (4, true), (0, true), (0, true), (10, false), (18, false), (20, false), (17, true), (3, true), (2, false), (18, false), (19, false), (19, false), (15, true), (0, false), (20, true), (3, true), (9, true), (8, false), (21, true), (0, false), (2, true), (2, true), (6, false), (5, false), (18, true)] = some ([bkK0 s, bkK1 bs, okI n, udK (tx n), okU u, uuK (tx u), bkK2 wh wl, uwK (tx (W2 wh wl)), bkK3 off bs, bkK4 bs, unhexK (hexS (u8L bs)), udV (tx n) != n, uuV (tx u) != u, bkK5 wh wl, bkK6 bs, bkK7 off bs, bkK8 bs, udK s, uuK s, uwK s, bkK9 s, unhexK s, bkK10 vh vl, bkK2 wh wl, decide (vh ≥ 0), decide (wh ≥ 0), bkK9 s, bkK11 s, bkK12 s, bkK13 s, bkK14 s, bkK15 s, bkK16 s], Value.bool true) := by kernel_rfl
theorem back_b1nnnnc_way (hR : Rt) (blk cap off : Nat) (bs : List UInt8) (hb : ∀ (j : Nat) v, (u8L bs)[j]? = some v → rootW.cell? ⟨blk, off + j, none⟩ = some v) (n u vh vl wh wl : Int) (s : ByteArray) : (bkR0 hR blk cap off bs hb n u vh vl wh wl s).way [(10, false), (7, false), (4, true), (4, true), (4, true), (4, true), (4, true), (4, true), (4, true), (0, true), (0, true), (10, false), (18, false), (20, false), (17, true), (3, true), (2, false), (18, false), (19, false), (19, false), (15, true), (0, false), (20, true), (3, true), (9, true), (8, true), (12, false), (12, true), (0, false), (2, true), (2, true), (6, false), (5, false), (18, true)] = some ([bkK0 s, bkK1 bs, okI n, udK (tx n), okU u, uuK (tx u), bkK2 wh wl, uwK (tx (W2 wh wl)), bkK3 off bs, bkK4 bs, unhexK (hexS (u8L bs)), udV (tx n) != n, uuV (tx u) != u, bkK5 wh wl, bkK6 bs, bkK7 off bs, bkK8 bs, udK s, uuK s, uwK s, bkK9 s, unhexK s, bkK10 vh vl, bkK2 wh wl, decide (vh ≥ 0), decide (wh ≥ 0), bkK17 vh vl wh wl, bkK9 s, bkK11 s, bkK12 s, bkK13 s, bkK14 s, bkK15 s, bkK16 s], Value.bool true) := by kernel_rfl
theorem back_b1nnnnd_way (hR : Rt) (blk cap off : Nat) (bs : List UInt8) (hb : ∀ (j : Nat) v, (u8L bs)[j]? = some v → rootW.cell? ⟨blk, off + j, none⟩ = some v) (n u vh vl wh wl : Int) (s : ByteArray) : (bkR0 hR blk cap off bs hb n u vh vl wh wl s).way [(10, false), (7, false), (4, true), (4, true), (4, true), (4, true), (4, true), (4, true), (4, true), (0, true), (0, true), (10, false), (18, false), (20, false), (17, true), (3, true), (2, false), (18, false), (19, false), (19, false), (15, true), (0, false), (20, true), (3, true), (9, true), (8, true), (12, true), (9, true), (2, false), (4, true), (0, false), (2, true), (2, true), (6, false), (5, false), (18, true)] = some ([bkK0 s, bkK1 bs, okI n, udK (tx n), okU u, uuK (tx u), bkK2 wh wl, uwK (tx (W2 wh wl)), bkK3 off bs, bkK4 bs, unhexK (hexS (u8L bs)), udV (tx n) != n, uuV (tx u) != u, bkK5 wh wl, bkK6 bs, bkK7 off bs, bkK8 bs, udK s, uuK s, uwK s, bkK9 s, unhexK s, bkK10 vh vl, bkK2 wh wl, decide (vh ≥ 0), decide (wh ≥ 0), bkK17 vh vl wh wl, okW vh vl && okW wh wl, bkK18 vh vl wh wl, bkK9 s, bkK11 s, bkK12 s, bkK13 s, bkK14 s, bkK15 s, bkK16 s], Value.bool true) := by kernel_rfl
theorem back_b1nnnya_way (hR : Rt) (blk cap off : Nat) (bs : List UInt8) (hb : ∀ (j : Nat) v, (u8L bs)[j]? = some v → rootW.cell? ⟨blk, off + j, none⟩ = some v) (n u vh vl wh wl : Int) (s : ByteArray) : (bkR0 hR blk cap off bs hb n u vh vl wh wl s).way [(10, false), (7, false), (4, true), (4, true), (4, true), (4, true), (4, true), (4, true), (4, true), (0, true), (0, true), (10, false), (18, false), (20, false), (17, true), (3, true), (2, false), (18, false), (19, false), (19, false), (15, true), (0, true), (14, true), (4, false), (5, true), (3, true), (9, false), (26, true), (0, false), (2, true), (2, true), (6, false), (5, false), (18, true)] = some ([bkK0 s, bkK1 bs, okI n, udK (tx n), okU u, uuK (tx u), bkK2 wh wl, uwK (tx (W2 wh wl)), bkK3 off bs, bkK4 bs, unhexK (hexS (u8L bs)), udV (tx n) != n, uuV (tx u) != u, bkK5 wh wl, bkK6 bs, bkK7 off bs, bkK8 bs, udK s, uuK s, uwK s, bkK9 s, unhexK s, bkK19 s, bkK20 s, bkK10 vh vl, bkK2 wh wl, decide (vh ≥ 0), bkK9 s, bkK11 s, bkK12 s, bkK13 s, bkK14 s, bkK15 s, bkK16 s], Value.bool true) := by kernel_rfl
theorem back_b1nnnyb_way (hR : Rt) (blk cap off : Nat) (bs : List UInt8) (hb : ∀ (j : Nat) v, (u8L bs)[j]? = some v → rootW.cell? ⟨blk, off + j, none⟩ = some v) (n u vh vl wh wl : Int) (s : ByteArray) : (bkR0 hR blk cap off bs hb n u vh vl wh wl s).way [(10, false), (7, false), (4, true), (4, true), (4, true), (4, true), (4, true), (4, true), (4, true), (0, true), (0, true), (10, false), (18, false), (20, false), (17, true), (3, true), (2, false), (18, false), (19, false), (19, false), (15, true), (0, true), (14, true), (4, false), (5, true), (3, true), (9, true), (8, false), (21, true), (0, false), (2, true), (2, true), (6, false), (5, false), (18, true)] = some ([bkK0 s, bkK1 bs, okI n, udK (tx n), okU u, uuK (tx u), bkK2 wh wl, uwK (tx (W2 wh wl)), bkK3 off bs, bkK4 bs, unhexK (hexS (u8L bs)), udV (tx n) != n, uuV (tx u) != u, bkK5 wh wl, bkK6 bs, bkK7 off bs, bkK8 bs, udK s, uuK s, uwK s, bkK9 s, unhexK s, bkK19 s, bkK20 s, bkK10 vh vl, bkK2 wh wl, decide (vh ≥ 0), decide (wh ≥ 0), bkK9 s, bkK11 s, bkK12 s, bkK13 s, bkK14 s, bkK15 s, bkK16 s], Value.bool true) := by kernel_rfl
theorem back_b1nnnyc_way (hR : Rt) (blk cap off : Nat) (bs : List UInt8) (hb : ∀ (j : Nat) v, (u8L bs)[j]? = some v → rootW.cell? ⟨blk, off + j, none⟩ = some v) (n u vh vl wh wl : Int) (s : ByteArray) : (bkR0 hR blk cap off bs hb n u vh vl wh wl s).way [(10, false), (7, false), (4, true), (4, true), (4, true), (4, true), (4, true), (4, true), (4, true), (0, true), (0, true), (10, false), (18, false), (20, false), (17, true), (3, true), (2, false), (18, false), (19, false), (19, false), (15, true), (0, true), (14, true), (4, false), (5, true), (3, true), (9, true), (8, true), (12, false), (12, true), (0, false), (2, true), (2, true), (6, false), (5, false), (18, true)] = some ([bkK0 s, bkK1 bs, okI n, udK (tx n), okU u, uuK (tx u), bkK2 wh wl, uwK (tx (W2 wh wl)), bkK3 off bs, bkK4 bs, unhexK (hexS (u8L bs)), udV (tx n) != n, uuV (tx u) != u, bkK5 wh wl, bkK6 bs, bkK7 off bs, bkK8 bs, udK s, uuK s, uwK s, bkK9 s, unhexK s, bkK19 s, bkK20 s, bkK10 vh vl, bkK2 wh wl, decide (vh ≥ 0), decide (wh ≥ 0), bkK17 vh vl wh wl, bkK9 s, bkK11 s, bkK12 s, bkK13 s, bkK14 s, bkK15 s, bkK16 s], Value.bool true) := by kernel_rfl
theorem back_b1nnnyd_way (hR : Rt) (blk cap off : Nat) (bs : List UInt8) (hb : ∀ (j : Nat) v, (u8L bs)[j]? = some v → rootW.cell? ⟨blk, off + j, none⟩ = some v) (n u vh vl wh wl : Int) (s : ByteArray) : (bkR0 hR blk cap off bs hb n u vh vl wh wl s).way [(10, false), (7, false), (4, true), (4, true), (4, true), (4, true), (4, true), (4, true), (4, true), (0, true), (0, true), (10, false), (18, false), (20, false), (17, true), (3, true), (2, false), (18, false), (19, false), (19, false), (15, true), (0, true), (14, true), (4, false), (5, true), (3, true), (9, true), (8, true), (12, true), (9, true), (2, false), (4, true), (0, false), (2, true), (2, true), (6, false), (5, false), (18, true)] = some ([bkK0 s, bkK1 bs, okI n, udK (tx n), okU u, uuK (tx u), bkK2 wh wl, uwK (tx (W2 wh wl)), bkK3 off bs, bkK4 bs, unhexK (hexS (u8L bs)), udV (tx n) != n, uuV (tx u) != u, bkK5 wh wl, bkK6 bs, bkK7 off bs, bkK8 bs, udK s, uuK s, uwK s, bkK9 s, unhexK s, bkK19 s, bkK20 s, bkK10 vh vl, bkK2 wh wl, decide (vh ≥ 0), decide (wh ≥ 0), bkK17 vh vl wh wl, okW vh vl && okW wh wl, bkK18 vh vl wh wl, bkK9 s, bkK11 s, bkK12 s, bkK13 s, bkK14 s, bkK15 s, bkK16 s], Value.bool true) := by kernel_rfl
theorem back_b1nnyna_way (hR : Rt) (blk cap off : Nat) (bs : List UInt8) (hb : ∀ (j : Nat) v, (u8L bs)[j]? = some v → rootW.cell? ⟨blk, off + j, none⟩ = some v) (n u vh vl wh wl : Int) (s : ByteArray) : (bkR0 hR blk cap off bs hb n u vh vl wh wl s).way [(10, false), (7, false), (4, true), (4, true), (4, true), (4, true), (4, true), (4, true), (4, true), (0, true), (0, true), (10, false), (18, false), (20, false), (17, true), (3, true), (2, false), (18, false), (19, false), (19, true), (10, true), (4, false), (4, true), (0, false), (20, true), (3, true), (9, false), (26, true), (0, false), (2, true), (2, true), (6, false), (5, false), (18, true)] = some ([bkK0 s, bkK1 bs, okI n, udK (tx n), okU u, uuK (tx u), bkK2 wh wl, uwK (tx (W2 wh wl)), bkK3 off bs, bkK4 bs, unhexK (hexS (u8L bs)), udV (tx n) != n, uuV (tx u) != u, bkK5 wh wl, bkK6 bs, bkK7 off bs, bkK8 bs, udK s, uuK s, uwK s, bkK21 s, bkK22 s, bkK9 s, unhexK s, bkK10 vh vl, bkK2 wh wl, decide (vh ≥ 0), bkK9 s, bkK11 s, bkK12 s, bkK13 s, bkK14 s, bkK15 s, bkK16 s], Value.bool true) := by kernel_rfl
theorem back_b1nnynb_way (hR : Rt) (blk cap off : Nat) (bs : List UInt8) (hb : ∀ (j : Nat) v, (u8L bs)[j]? = some v → rootW.cell? ⟨blk, off + j, none⟩ = some v) (n u vh vl wh wl : Int) (s : ByteArray) : (bkR0 hR blk cap off bs hb n u vh vl wh wl s).way [(10, false), (7, false), (4, true), (4, true), (4, true), (4, true), (4, true), (4, true), (4, true), (0, true), (0, true), (10, false), (18, false), (20, false), (17, true), (3, true), (2, false), (18, false), (19, false), (19, true), (10, true), (4, false), (4, true), (0, false), (20, true), (3, true), (9, true), (8, false), (21, true), (0, false), (2, true), (2, true), (6, false), (5, false), (18, true)] = some ([bkK0 s, bkK1 bs, okI n, udK (tx n), okU u, uuK (tx u), bkK2 wh wl, uwK (tx (W2 wh wl)), bkK3 off bs, bkK4 bs, unhexK (hexS (u8L bs)), udV (tx n) != n, uuV (tx u) != u, bkK5 wh wl, bkK6 bs, bkK7 off bs, bkK8 bs, udK s, uuK s, uwK s, bkK21 s, bkK22 s, bkK9 s, unhexK s, bkK10 vh vl, bkK2 wh wl, decide (vh ≥ 0), decide (wh ≥ 0), bkK9 s, bkK11 s, bkK12 s, bkK13 s, bkK14 s, bkK15 s, bkK16 s], Value.bool true) := by kernel_rfl
theorem back_b1nnync_way (hR : Rt) (blk cap off : Nat) (bs : List UInt8) (hb : ∀ (j : Nat) v, (u8L bs)[j]? = some v → rootW.cell? ⟨blk, off + j, none⟩ = some v) (n u vh vl wh wl : Int) (s : ByteArray) : (bkR0 hR blk cap off bs hb n u vh vl wh wl s).way [(10, false), (7, false), (4, true), (4, true), (4, true), (4, true), (4, true), (4, true), (4, true), (0, true), (0, true), (10, false), (18, false), (20, false), (17, true), (3, true), (2, false), (18, false), (19, false), (19, true), (10, true), (4, false), (4, true), (0, false), (20, true), (3, true), (9, true), (8, true), (12, false), (12, true), (0, false), (2, true), (2, true), (6, false), (5, false), (18, true)] = some ([bkK0 s, bkK1 bs, okI n, udK (tx n), okU u, uuK (tx u), bkK2 wh wl, uwK (tx (W2 wh wl)), bkK3 off bs, bkK4 bs, unhexK (hexS (u8L bs)), udV (tx n) != n, uuV (tx u) != u, bkK5 wh wl, bkK6 bs, bkK7 off bs, bkK8 bs, udK s, uuK s, uwK s, bkK21 s, bkK22 s, bkK9 s, unhexK s, bkK10 vh vl, bkK2 wh wl, decide (vh ≥ 0), decide (wh ≥ 0), bkK17 vh vl wh wl, bkK9 s, bkK11 s, bkK12 s, bkK13 s, bkK14 s, bkK15 s, bkK16 s], Value.bool true) := by kernel_rfl
theorem back_b1nnynd_way (hR : Rt) (blk cap off : Nat) (bs : List UInt8) (hb : ∀ (j : Nat) v, (u8L bs)[j]? = some v → rootW.cell? ⟨blk, off + j, none⟩ = some v) (n u vh vl wh wl : Int) (s : ByteArray) : (bkR0 hR blk cap off bs hb n u vh vl wh wl s).way [(10, false), (7, false), (4, true), (4, true), (4, true), (4, true), (4, true), (4, true), (4, true), (0, true), (0, true), (10, false), (18, false), (20, false), (17, true), (3, true), (2, false), (18, false), (19, false), (19, true), (10, true), (4, false), (4, true), (0, false), (20, true), (3, true), (9, true), (8, true), (12, true), (9, true), (2, false), (4, true), (0, false), (2, true), (2, true), (6, false), (5, false), (18, true)] = some ([bkK0 s, bkK1 bs, okI n, udK (tx n), okU u, uuK (tx u), bkK2 wh wl, uwK (tx (W2 wh wl)), bkK3 off bs, bkK4 bs, unhexK (hexS (u8L bs)), udV (tx n) != n, uuV (tx u) != u, bkK5 wh wl, bkK6 bs, bkK7 off bs, bkK8 bs, udK s, uuK s, uwK s, bkK21 s, bkK22 s, bkK9 s, unhexK s, bkK10 vh vl, bkK2 wh wl, decide (vh ≥ 0), decide (wh ≥ 0), bkK17 vh vl wh wl, okW vh vl && okW wh wl, bkK18 vh vl wh wl, bkK9 s, bkK11 s, bkK12 s, bkK13 s, bkK14 s, bkK15 s, bkK16 s], Value.bool true) := by kernel_rfl
theorem back_b1nnyya_way (hR : Rt) (blk cap off : Nat) (bs : List UInt8) (hb : ∀ (j : Nat) v, (u8L bs)[j]? = some v → rootW.cell? ⟨blk, off + j, none⟩ = some v) (n u vh vl wh wl : Int) (s : ByteArray) : (bkR0 hR blk cap off bs hb n u vh vl wh wl s).way [(10, false), (7, false), (4, true), (4, true), (4, true), (4, true), (4, true), (4, true), (4, true), (0, true), (0, true), (10, false), (18, false), (20, false), (17, true), (3, true), (2, false), (18, false), (19, false), (19, true), (10, true), (4, false), (4, true), (0, true), (14, true), (4, false), (5, true), (3, true), (9, false), (26, true), (0, false), (2, true), (2, true), (6, false), (5, false), (18, true)] = some ([bkK0 s, bkK1 bs, okI n, udK (tx n), okU u, uuK (tx u), bkK2 wh wl, uwK (tx (W2 wh wl)), bkK3 off bs, bkK4 bs, unhexK (hexS (u8L bs)), udV (tx n) != n, uuV (tx u) != u, bkK5 wh wl, bkK6 bs, bkK7 off bs, bkK8 bs, udK s, uuK s, uwK s, bkK21 s, bkK22 s, bkK9 s, unhexK s, bkK19 s, bkK20 s, bkK10 vh vl, bkK2 wh wl, decide (vh ≥ 0), bkK9 s, bkK11 s, bkK12 s, bkK13 s, bkK14 s, bkK15 s, bkK16 s], Value.bool true) := by kernel_rfl
theorem back_b1nnyyb_way (hR : Rt) (blk cap off : Nat) (bs : List UInt8) (hb : ∀ (j : Nat) v, (u8L bs)[j]? = some v → rootW.cell? ⟨blk, off + j, none⟩ = some v) (n u vh vl wh wl : Int) (s : ByteArray) : (bkR0 hR blk cap off bs hb n u vh vl wh wl s).way [(10, false), (7, false), (4, true), (4, true), (4, true), (4, true), (4, true), (4, true), (4, true), (0, true), (0, true), (10, false), (18, false), (20, false), (17, true), (3, true), (2, false), (18, false), (19, false), (19, true), (10, true), (4, false), (4, true), (0, true), (14, true), (4, false), (5, true), (3, true), (9, true), (8, false), (21, true), (0, false), (2, true), (2, true), (6, false), (5, false), (18, true)] = some ([bkK0 s, bkK1 bs, okI n, udK (tx n), okU u, uuK (tx u), bkK2 wh wl, uwK (tx (W2 wh wl)), bkK3 off bs, bkK4 bs, unhexK (hexS (u8L bs)), udV (tx n) != n, uuV (tx u) != u, bkK5 wh wl, bkK6 bs, bkK7 off bs, bkK8 bs, udK s, uuK s, uwK s, bkK21 s, bkK22 s, bkK9 s, unhexK s, bkK19 s, bkK20 s, bkK10 vh vl, bkK2 wh wl, decide (vh ≥ 0), decide (wh ≥ 0), bkK9 s, bkK11 s, bkK12 s, bkK13 s, bkK14 s, bkK15 s, bkK16 s], Value.bool true) := by kernel_rfl
theorem back_b1nnyyc_way (hR : Rt) (blk cap off : Nat) (bs : List UInt8) (hb : ∀ (j : Nat) v, (u8L bs)[j]? = some v → rootW.cell? ⟨blk, off + j, none⟩ = some v) (n u vh vl wh wl : Int) (s : ByteArray) : (bkR0 hR blk cap off bs hb n u vh vl wh wl s).way [(10, false), (7, false), (4, true), (4, true), (4, true), (4, true), (4, true), (4, true), (4, true), (0, true), (0, true), (10, false), (18, false), (20, false), (17, true), (3, true), (2, false), (18, false), (19, false), (19, true), (10, true), (4, false), (4, true), (0, true), (14, true), (4, false), (5, true), (3, true), (9, true), (8, true), (12, false), (12, true), (0, false), (2, true), (2, true), (6, false), (5, false), (18, true)] = some ([bkK0 s, bkK1 bs, okI n, udK (tx n), okU u, uuK (tx u), bkK2 wh wl, uwK (tx (W2 wh wl)), bkK3 off bs, bkK4 bs, unhexK (hexS (u8L bs)), udV (tx n) != n, uuV (tx u) != u, bkK5 wh wl, bkK6 bs, bkK7 off bs, bkK8 bs, udK s, uuK s, uwK s, bkK21 s, bkK22 s, bkK9 s, unhexK s, bkK19 s, bkK20 s, bkK10 vh vl, bkK2 wh wl, decide (vh ≥ 0), decide (wh ≥ 0), bkK17 vh vl wh wl, bkK9 s, bkK11 s, bkK12 s, bkK13 s, bkK14 s, bkK15 s, bkK16 s], Value.bool true) := by kernel_rfl
theorem back_b1nnyyd_way (hR : Rt) (blk cap off : Nat) (bs : List UInt8) (hb : ∀ (j : Nat) v, (u8L bs)[j]? = some v → rootW.cell? ⟨blk, off + j, none⟩ = some v) (n u vh vl wh wl : Int) (s : ByteArray) : (bkR0 hR blk cap off bs hb n u vh vl wh wl s).way [(10, false), (7, false), (4, true), (4, true), (4, true), (4, true), (4, true), (4, true), (4, true), (0, true), (0, true), (10, false), (18, false), (20, false), (17, true), (3, true), (2, false), (18, false), (19, false), (19, true), (10, true), (4, false), (4, true), (0, true), (14, true), (4, false), (5, true), (3, true), (9, true), (8, true), (12, true), (9, true), (2, false), (4, true), (0, false), (2, true), (2, true), (6, false), (5, false), (18, true)] = some ([bkK0 s, bkK1 bs, okI n, udK (tx n), okU u, uuK (tx u), bkK2 wh wl, uwK (tx (W2 wh wl)), bkK3 off bs, bkK4 bs, unhexK (hexS (u8L bs)), udV (tx n) != n, uuV (tx u) != u, bkK5 wh wl, bkK6 bs, bkK7 off bs, bkK8 bs, udK s, uuK s, uwK s, bkK21 s, bkK22 s, bkK9 s, unhexK s, bkK19 s, bkK20 s, bkK10 vh vl, bkK2 wh wl, decide (vh ≥ 0), decide (wh ≥ 0), bkK17 vh vl wh wl, okW vh vl && okW wh wl, bkK18 vh vl wh wl, bkK9 s, bkK11 s, bkK12 s, bkK13 s, bkK14 s, bkK15 s, bkK16 s], Value.bool true) := by kernel_rfl
theorem back_b1nyyna_way (hR : Rt) (blk cap off : Nat) (bs : List UInt8) (hb : ∀ (j : Nat) v, (u8L bs)[j]? = some v → rootW.cell? ⟨blk, off + j, none⟩ = some v) (n u vh vl wh wl : Int) (s : ByteArray) : (bkR0 hR blk cap off bs hb n u vh vl wh wl s).way [(10, false), (7, false), (4, true), (4, true), (4, true), (4, true), (4, true), (4, true), (4, true), (0, true), (0, true), (10, false), (18, false), (20, false), (17, true), (3, true), (2, false), (18, false), (19, true), (10, true), (4, false), (8, true), (10, true), (4, false), (4, true), (0, false), (20, true), (3, true), (9, false), (26, true), (0, false), (2, true), (2, true), (6, false), (5, false), (18, true)] = some ([bkK0 s, bkK1 bs, okI n, udK (tx n), okU u, uuK (tx u), bkK2 wh wl, uwK (tx (W2 wh wl)), bkK3 off bs, bkK4 bs, unhexK (hexS (u8L bs)), udV (tx n) != n, uuV (tx u) != u, bkK5 wh wl, bkK6 bs, bkK7 off bs, bkK8 bs, udK s, uuK s, okU (uuV s), bkK23 s, uwK s, bkK21 s, bkK22 s, bkK9 s, unhexK s, bkK10 vh vl, bkK2 wh wl, decide (vh ≥ 0), bkK9 s, bkK11 s, bkK12 s, bkK13 s, bkK14 s, bkK15 s, bkK16 s], Value.bool true) := by kernel_rfl
theorem back_b1nyynb_way (hR : Rt) (blk cap off : Nat) (bs : List UInt8) (hb : ∀ (j : Nat) v, (u8L bs)[j]? = some v → rootW.cell? ⟨blk, off + j, none⟩ = some v) (n u vh vl wh wl : Int) (s : ByteArray) : (bkR0 hR blk cap off bs hb n u vh vl wh wl s).way [(10, false), (7, false), (4, true), (4, true), (4, true), (4, true), (4, true), (4, true), (4, true), (0, true), (0, true), (10, false), (18, false), (20, false), (17, true), (3, true), (2, false), (18, false), (19, true), (10, true), (4, false), (8, true), (10, true), (4, false), (4, true), (0, false), (20, true), (3, true), (9, true), (8, false), (21, true), (0, false), (2, true), (2, true), (6, false), (5, false), (18, true)] = some ([bkK0 s, bkK1 bs, okI n, udK (tx n), okU u, uuK (tx u), bkK2 wh wl, uwK (tx (W2 wh wl)), bkK3 off bs, bkK4 bs, unhexK (hexS (u8L bs)), udV (tx n) != n, uuV (tx u) != u, bkK5 wh wl, bkK6 bs, bkK7 off bs, bkK8 bs, udK s, uuK s, okU (uuV s), bkK23 s, uwK s, bkK21 s, bkK22 s, bkK9 s, unhexK s, bkK10 vh vl, bkK2 wh wl, decide (vh ≥ 0), decide (wh ≥ 0), bkK9 s, bkK11 s, bkK12 s, bkK13 s, bkK14 s, bkK15 s, bkK16 s], Value.bool true) := by kernel_rfl
theorem back_b1nyync_way (hR : Rt) (blk cap off : Nat) (bs : List UInt8) (hb : ∀ (j : Nat) v, (u8L bs)[j]? = some v → rootW.cell? ⟨blk, off + j, none⟩ = some v) (n u vh vl wh wl : Int) (s : ByteArray) : (bkR0 hR blk cap off bs hb n u vh vl wh wl s).way [(10, false), (7, false), (4, true), (4, true), (4, true), (4, true), (4, true), (4, true), (4, true), (0, true), (0, true), (10, false), (18, false), (20, false), (17, true), (3, true), (2, false), (18, false), (19, true), (10, true), (4, false), (8, true), (10, true), (4, false), (4, true), (0, false), (20, true), (3, true), (9, true), (8, true), (12, false), (12, true), (0, false), (2, true), (2, true), (6, false), (5, false), (18, true)] = some ([bkK0 s, bkK1 bs, okI n, udK (tx n), okU u, uuK (tx u), bkK2 wh wl, uwK (tx (W2 wh wl)), bkK3 off bs, bkK4 bs, unhexK (hexS (u8L bs)), udV (tx n) != n, uuV (tx u) != u, bkK5 wh wl, bkK6 bs, bkK7 off bs, bkK8 bs, udK s, uuK s, okU (uuV s), bkK23 s, uwK s, bkK21 s, bkK22 s, bkK9 s, unhexK s, bkK10 vh vl, bkK2 wh wl, decide (vh ≥ 0), decide (wh ≥ 0), bkK17 vh vl wh wl, bkK9 s, bkK11 s, bkK12 s, bkK13 s, bkK14 s, bkK15 s, bkK16 s], Value.bool true) := by kernel_rfl
theorem back_b1nyynd_way (hR : Rt) (blk cap off : Nat) (bs : List UInt8) (hb : ∀ (j : Nat) v, (u8L bs)[j]? = some v → rootW.cell? ⟨blk, off + j, none⟩ = some v) (n u vh vl wh wl : Int) (s : ByteArray) : (bkR0 hR blk cap off bs hb n u vh vl wh wl s).way [(10, false), (7, false), (4, true), (4, true), (4, true), (4, true), (4, true), (4, true), (4, true), (0, true), (0, true), (10, false), (18, false), (20, false), (17, true), (3, true), (2, false), (18, false), (19, true), (10, true), (4, false), (8, true), (10, true), (4, false), (4, true), (0, false), (20, true), (3, true), (9, true), (8, true), (12, true), (9, true), (2, false), (4, true), (0, false), (2, true), (2, true), (6, false), (5, false), (18, true)] = some ([bkK0 s, bkK1 bs, okI n, udK (tx n), okU u, uuK (tx u), bkK2 wh wl, uwK (tx (W2 wh wl)), bkK3 off bs, bkK4 bs, unhexK (hexS (u8L bs)), udV (tx n) != n, uuV (tx u) != u, bkK5 wh wl, bkK6 bs, bkK7 off bs, bkK8 bs, udK s, uuK s, okU (uuV s), bkK23 s, uwK s, bkK21 s, bkK22 s, bkK9 s, unhexK s, bkK10 vh vl, bkK2 wh wl, decide (vh ≥ 0), decide (wh ≥ 0), bkK17 vh vl wh wl, okW vh vl && okW wh wl, bkK18 vh vl wh wl, bkK9 s, bkK11 s, bkK12 s, bkK13 s, bkK14 s, bkK15 s, bkK16 s], Value.bool true) := by kernel_rfl
theorem back_b1nyyya_way (hR : Rt) (blk cap off : Nat) (bs : List UInt8) (hb : ∀ (j : Nat) v, (u8L bs)[j]? = some v → rootW.cell? ⟨blk, off + j, none⟩ = some v) (n u vh vl wh wl : Int) (s : ByteArray) : (bkR0 hR blk cap off bs hb n u vh vl wh wl s).way [(10, false), (7, false), (4, true), (4, true), (4, true), (4, true), (4, true), (4, true), (4, true), (0, true), (0, true), (10, false), (18, false), (20, false), (17, true), (3, true), (2, false), (18, false), (19, true), (10, true), (4, false), (8, true), (10, true), (4, false), (4, true), (0, true), (14, true), (4, false), (5, true), (3, true), (9, false), (26, true), (0, false), (2, true), (2, true), (6, false), (5, false), (18, true)] = some ([bkK0 s, bkK1 bs, okI n, udK (tx n), okU u, uuK (tx u), bkK2 wh wl, uwK (tx (W2 wh wl)), bkK3 off bs, bkK4 bs, unhexK (hexS (u8L bs)), udV (tx n) != n, uuV (tx u) != u, bkK5 wh wl, bkK6 bs, bkK7 off bs, bkK8 bs, udK s, uuK s, okU (uuV s), bkK23 s, uwK s, bkK21 s, bkK22 s, bkK9 s, unhexK s, bkK19 s, bkK20 s, bkK10 vh vl, bkK2 wh wl, decide (vh ≥ 0), bkK9 s, bkK11 s, bkK12 s, bkK13 s, bkK14 s, bkK15 s, bkK16 s], Value.bool true) := by kernel_rfl
theorem back_b1nyyyb_way (hR : Rt) (blk cap off : Nat) (bs : List UInt8) (hb : ∀ (j : Nat) v, (u8L bs)[j]? = some v → rootW.cell? ⟨blk, off + j, none⟩ = some v) (n u vh vl wh wl : Int) (s : ByteArray) : (bkR0 hR blk cap off bs hb n u vh vl wh wl s).way [(10, false), (7, false), (4, true), (4, true), (4, true), (4, true), (4, true), (4, true), (4, true), (0, true), (0, true), (10, false), (18, false), (20, false), (17, true), (3, true), (2, false), (18, false), (19, true), (10, true), (4, false), (8, true), (10, true), (4, false), (4, true), (0, true), (14, true), (4, false), (5, true), (3, true), (9, true), (8, false), (21, true), (0, false), (2, true), (2, true), (6, false), (5, false), (18, true)] = some ([bkK0 s, bkK1 bs, okI n, udK (tx n), okU u, uuK (tx u), bkK2 wh wl, uwK (tx (W2 wh wl)), bkK3 off bs, bkK4 bs, unhexK (hexS (u8L bs)), udV (tx n) != n, uuV (tx u) != u, bkK5 wh wl, bkK6 bs, bkK7 off bs, bkK8 bs, udK s, uuK s, okU (uuV s), bkK23 s, uwK s, bkK21 s, bkK22 s, bkK9 s, unhexK s, bkK19 s, bkK20 s, bkK10 vh vl, bkK2 wh wl, decide (vh ≥ 0), decide (wh ≥ 0), bkK9 s, bkK11 s, bkK12 s, bkK13 s, bkK14 s, bkK15 s, bkK16 s], Value.bool true) := by kernel_rfl
theorem back_b1nyyyc_way (hR : Rt) (blk cap off : Nat) (bs : List UInt8) (hb : ∀ (j : Nat) v, (u8L bs)[j]? = some v → rootW.cell? ⟨blk, off + j, none⟩ = some v) (n u vh vl wh wl : Int) (s : ByteArray) : (bkR0 hR blk cap off bs hb n u vh vl wh wl s).way [(10, false), (7, false), (4, true), (4, true), (4, true), (4, true), (4, true), (4, true), (4, true), (0, true), (0, true), (10, false), (18, false), (20, false), (17, true), (3, true), (2, false), (18, false), (19, true), (10, true), (4, false), (8, true), (10, true), (4, false), (4, true), (0, true), (14, true), (4, false), (5, true), (3, true), (9, true), (8, true), (12, false), (12, true), (0, false), (2, true), (2, true), (6, false), (5, false), (18, true)] = some ([bkK0 s, bkK1 bs, okI n, udK (tx n), okU u, uuK (tx u), bkK2 wh wl, uwK (tx (W2 wh wl)), bkK3 off bs, bkK4 bs, unhexK (hexS (u8L bs)), udV (tx n) != n, uuV (tx u) != u, bkK5 wh wl, bkK6 bs, bkK7 off bs, bkK8 bs, udK s, uuK s, okU (uuV s), bkK23 s, uwK s, bkK21 s, bkK22 s, bkK9 s, unhexK s, bkK19 s, bkK20 s, bkK10 vh vl, bkK2 wh wl, decide (vh ≥ 0), decide (wh ≥ 0), bkK17 vh vl wh wl, bkK9 s, bkK11 s, bkK12 s, bkK13 s, bkK14 s, bkK15 s, bkK16 s], Value.bool true) := by kernel_rfl
theorem back_b1nyyyd_way (hR : Rt) (blk cap off : Nat) (bs : List UInt8) (hb : ∀ (j : Nat) v, (u8L bs)[j]? = some v → rootW.cell? ⟨blk, off + j, none⟩ = some v) (n u vh vl wh wl : Int) (s : ByteArray) : (bkR0 hR blk cap off bs hb n u vh vl wh wl s).way [(10, false), (7, false), (4, true), (4, true), (4, true), (4, true), (4, true), (4, true), (4, true), (0, true), (0, true), (10, false), (18, false), (20, false), (17, true), (3, true), (2, false), (18, false), (19, true), (10, true), (4, false), (8, true), (10, true), (4, false), (4, true), (0, true), (14, true), (4, false), (5, true), (3, true), (9, true), (8, true), (12, true), (9, true), (2, false), (4, true), (0, false), (2, true), (2, true), (6, false), (5, false), (18, true)] = some ([bkK0 s, bkK1 bs, okI n, udK (tx n), okU u, uuK (tx u), bkK2 wh wl, uwK (tx (W2 wh wl)), bkK3 off bs, bkK4 bs, unhexK (hexS (u8L bs)), udV (tx n) != n, uuV (tx u) != u, bkK5 wh wl, bkK6 bs, bkK7 off bs, bkK8 bs, udK s, uuK s, okU (uuV s), bkK23 s, uwK s, bkK21 s, bkK22 s, bkK9 s, unhexK s, bkK19 s, bkK20 s, bkK10 vh vl, bkK2 wh wl, decide (vh ≥ 0), decide (wh ≥ 0), bkK17 vh vl wh wl, okW vh vl && okW wh wl, bkK18 vh vl wh wl, bkK9 s, bkK11 s, bkK12 s, bkK13 s, bkK14 s, bkK15 s, bkK16 s], Value.bool true) := by kernel_rfl
theorem back_b1ynyna_way (hR : Rt) (blk cap off : Nat) (bs : List UInt8) (hb : ∀ (j : Nat) v, (u8L bs)[j]? = some v → rootW.cell? ⟨blk, off + j, none⟩ = some v) (n u vh vl wh wl : Int) (s : ByteArray) : (bkR0 hR blk cap off bs hb n u vh vl wh wl s).way [(10, false), (7, false), (4, true), (4, true), (4, true), (4, true), (4, true), (4, true), (4, true), (0, true), (0, true), (10, false), (18, false), (20, false), (17, true), (3, true), (2, false), (18, true), (10, true), (4, false), (8, false), (19, true), (10, true), (4, false), (4, true), (0, false), (20, true), (3, true), (9, false), (26, true), (0, false), (2, true), (2, true), (6, false), (5, false), (18, true)] = some ([bkK0 s, bkK1 bs, okI n, udK (tx n), okU u, uuK (tx u), bkK2 wh wl, uwK (tx (W2 wh wl)), bkK3 off bs, bkK4 bs, unhexK (hexS (u8L bs)), udV (tx n) != n, uuV (tx u) != u, bkK5 wh wl, bkK6 bs, bkK7 off bs, bkK8 bs, udK s, okI (udV s), bkK24 s, uuK s, uwK s, bkK21 s, bkK22 s, bkK9 s, unhexK s, bkK10 vh vl, bkK2 wh wl, decide (vh ≥ 0), bkK9 s, bkK11 s, bkK12 s, bkK13 s, bkK14 s, bkK15 s, bkK16 s], Value.bool true) := by kernel_rfl
theorem back_b1ynynb_way (hR : Rt) (blk cap off : Nat) (bs : List UInt8) (hb : ∀ (j : Nat) v, (u8L bs)[j]? = some v → rootW.cell? ⟨blk, off + j, none⟩ = some v) (n u vh vl wh wl : Int) (s : ByteArray) : (bkR0 hR blk cap off bs hb n u vh vl wh wl s).way [(10, false), (7, false), (4, true), (4, true), (4, true), (4, true), (4, true), (4, true), (4, true), (0, true), (0, true), (10, false), (18, false), (20, false), (17, true), (3, true), (2, false), (18, true), (10, true), (4, false), (8, false), (19, true), (10, true), (4, false), (4, true), (0, false), (20, true), (3, true), (9, true), (8, false), (21, true), (0, false), (2, true), (2, true), (6, false), (5, false), (18, true)] = some ([bkK0 s, bkK1 bs, okI n, udK (tx n), okU u, uuK (tx u), bkK2 wh wl, uwK (tx (W2 wh wl)), bkK3 off bs, bkK4 bs, unhexK (hexS (u8L bs)), udV (tx n) != n, uuV (tx u) != u, bkK5 wh wl, bkK6 bs, bkK7 off bs, bkK8 bs, udK s, okI (udV s), bkK24 s, uuK s, uwK s, bkK21 s, bkK22 s, bkK9 s, unhexK s, bkK10 vh vl, bkK2 wh wl, decide (vh ≥ 0), decide (wh ≥ 0), bkK9 s, bkK11 s, bkK12 s, bkK13 s, bkK14 s, bkK15 s, bkK16 s], Value.bool true) := by kernel_rfl
theorem back_b1ynync_way (hR : Rt) (blk cap off : Nat) (bs : List UInt8) (hb : ∀ (j : Nat) v, (u8L bs)[j]? = some v → rootW.cell? ⟨blk, off + j, none⟩ = some v) (n u vh vl wh wl : Int) (s : ByteArray) : (bkR0 hR blk cap off bs hb n u vh vl wh wl s).way [(10, false), (7, false), (4, true), (4, true), (4, true), (4, true), (4, true), (4, true), (4, true), (0, true), (0, true), (10, false), (18, false), (20, false), (17, true), (3, true), (2, false), (18, true), (10, true), (4, false), (8, false), (19, true), (10, true), (4, false), (4, true), (0, false), (20, true), (3, true), (9, true), (8, true), (12, false), (12, true), (0, false), (2, true), (2, true), (6, false), (5, false), (18, true)] = some ([bkK0 s, bkK1 bs, okI n, udK (tx n), okU u, uuK (tx u), bkK2 wh wl, uwK (tx (W2 wh wl)), bkK3 off bs, bkK4 bs, unhexK (hexS (u8L bs)), udV (tx n) != n, uuV (tx u) != u, bkK5 wh wl, bkK6 bs, bkK7 off bs, bkK8 bs, udK s, okI (udV s), bkK24 s, uuK s, uwK s, bkK21 s, bkK22 s, bkK9 s, unhexK s, bkK10 vh vl, bkK2 wh wl, decide (vh ≥ 0), decide (wh ≥ 0), bkK17 vh vl wh wl, bkK9 s, bkK11 s, bkK12 s, bkK13 s, bkK14 s, bkK15 s, bkK16 s], Value.bool true) := by kernel_rfl
theorem back_b1ynynd_way (hR : Rt) (blk cap off : Nat) (bs : List UInt8) (hb : ∀ (j : Nat) v, (u8L bs)[j]? = some v → rootW.cell? ⟨blk, off + j, none⟩ = some v) (n u vh vl wh wl : Int) (s : ByteArray) : (bkR0 hR blk cap off bs hb n u vh vl wh wl s).way [(10, false), (7, false), (4, true), (4, true), (4, true), (4, true), (4, true), (4, true), (4, true), (0, true), (0, true), (10, false), (18, false), (20, false), (17, true), (3, true), (2, false), (18, true), (10, true), (4, false), (8, false), (19, true), (10, true), (4, false), (4, true), (0, false), (20, true), (3, true), (9, true), (8, true), (12, true), (9, true), (2, false), (4, true), (0, false), (2, true), (2, true), (6, false), (5, false), (18, true)] = some ([bkK0 s, bkK1 bs, okI n, udK (tx n), okU u, uuK (tx u), bkK2 wh wl, uwK (tx (W2 wh wl)), bkK3 off bs, bkK4 bs, unhexK (hexS (u8L bs)), udV (tx n) != n, uuV (tx u) != u, bkK5 wh wl, bkK6 bs, bkK7 off bs, bkK8 bs, udK s, okI (udV s), bkK24 s, uuK s, uwK s, bkK21 s, bkK22 s, bkK9 s, unhexK s, bkK10 vh vl, bkK2 wh wl, decide (vh ≥ 0), decide (wh ≥ 0), bkK17 vh vl wh wl, okW vh vl && okW wh wl, bkK18 vh vl wh wl, bkK9 s, bkK11 s, bkK12 s, bkK13 s, bkK14 s, bkK15 s, bkK16 s], Value.bool true) := by kernel_rfl
theorem back_b1ynyya_way (hR : Rt) (blk cap off : Nat) (bs : List UInt8) (hb : ∀ (j : Nat) v, (u8L bs)[j]? = some v → rootW.cell? ⟨blk, off + j, none⟩ = some v) (n u vh vl wh wl : Int) (s : ByteArray) : (bkR0 hR blk cap off bs hb n u vh vl wh wl s).way [(10, false), (7, false), (4, true), (4, true), (4, true), (4, true), (4, true), (4, true), (4, true), (0, true), (0, true), (10, false), (18, false), (20, false), (17, true), (3, true), (2, false), (18, true), (10, true), (4, false), (8, false), (19, true), (10, true), (4, false), (4, true), (0, true), (14, true), (4, false), (5, true), (3, true), (9, false), (26, true), (0, false), (2, true), (2, true), (6, false), (5, false), (18, true)] = some ([bkK0 s, bkK1 bs, okI n, udK (tx n), okU u, uuK (tx u), bkK2 wh wl, uwK (tx (W2 wh wl)), bkK3 off bs, bkK4 bs, unhexK (hexS (u8L bs)), udV (tx n) != n, uuV (tx u) != u, bkK5 wh wl, bkK6 bs, bkK7 off bs, bkK8 bs, udK s, okI (udV s), bkK24 s, uuK s, uwK s, bkK21 s, bkK22 s, bkK9 s, unhexK s, bkK19 s, bkK20 s, bkK10 vh vl, bkK2 wh wl, decide (vh ≥ 0), bkK9 s, bkK11 s, bkK12 s, bkK13 s, bkK14 s, bkK15 s, bkK16 s], Value.bool true) := by kernel_rfl
theorem back_b1ynyyb_way (hR : Rt) (blk cap off : Nat) (bs : List UInt8) (hb : ∀ (j : Nat) v, (u8L bs)[j]? = some v → rootW.cell? ⟨blk, off + j, none⟩ = some v) (n u vh vl wh wl : Int) (s : ByteArray) : (bkR0 hR blk cap off bs hb n u vh vl wh wl s).way [(10, false), (7, false), (4, true), (4, true), (4, true), (4, true), (4, true), (4, true), (4, true), (0, true), (0, true), (10, false), (18, false), (20, false), (17, true), (3, true), (2, false), (18, true), (10, true), (4, false), (8, false), (19, true), (10, true), (4, false), (4, true), (0, true), (14, true), (4, false), (5, true), (3, true), (9, true), (8, false), (21, true), (0, false), (2, true), (2, true), (6, false), (5, false), (18, true)] = some ([bkK0 s, bkK1 bs, okI n, udK (tx n), okU u, uuK (tx u), bkK2 wh wl, uwK (tx (W2 wh wl)), bkK3 off bs, bkK4 bs, unhexK (hexS (u8L bs)), udV (tx n) != n, uuV (tx u) != u, bkK5 wh wl, bkK6 bs, bkK7 off bs, bkK8 bs, udK s, okI (udV s), bkK24 s, uuK s, uwK s, bkK21 s, bkK22 s, bkK9 s, unhexK s, bkK19 s, bkK20 s, bkK10 vh vl, bkK2 wh wl, decide (vh ≥ 0), decide (wh ≥ 0), bkK9 s, bkK11 s, bkK12 s, bkK13 s, bkK14 s, bkK15 s, bkK16 s], Value.bool true) := by kernel_rfl
theorem back_b1ynyyc_way (hR : Rt) (blk cap off : Nat) (bs : List UInt8) (hb : ∀ (j : Nat) v, (u8L bs)[j]? = some v → rootW.cell? ⟨blk, off + j, none⟩ = some v) (n u vh vl wh wl : Int) (s : ByteArray) : (bkR0 hR blk cap off bs hb n u vh vl wh wl s).way [(10, false), (7, false), (4, true), (4, true), (4, true), (4, true), (4, true), (4, true), (4, true), (0, true), (0, true), (10, false), (18, false), (20, false), (17, true), (3, true), (2, false), (18, true), (10, true), (4, false), (8, false), (19, true), (10, true), (4, false), (4, true), (0, true), (14, true), (4, false), (5, true), (3, true), (9, true), (8, true), (12, false), (12, true), (0, false), (2, true), (2, true), (6, false), (5, false), (18, true)] = some ([bkK0 s, bkK1 bs, okI n, udK (tx n), okU u, uuK (tx u), bkK2 wh wl, uwK (tx (W2 wh wl)), bkK3 off bs, bkK4 bs, unhexK (hexS (u8L bs)), udV (tx n) != n, uuV (tx u) != u, bkK5 wh wl, bkK6 bs, bkK7 off bs, bkK8 bs, udK s, okI (udV s), bkK24 s, uuK s, uwK s, bkK21 s, bkK22 s, bkK9 s, unhexK s, bkK19 s, bkK20 s, bkK10 vh vl, bkK2 wh wl, decide (vh ≥ 0), decide (wh ≥ 0), bkK17 vh vl wh wl, bkK9 s, bkK11 s, bkK12 s, bkK13 s, bkK14 s, bkK15 s, bkK16 s], Value.bool true) := by kernel_rfl
theorem back_b1ynyyd_way (hR : Rt) (blk cap off : Nat) (bs : List UInt8) (hb : ∀ (j : Nat) v, (u8L bs)[j]? = some v → rootW.cell? ⟨blk, off + j, none⟩ = some v) (n u vh vl wh wl : Int) (s : ByteArray) : (bkR0 hR blk cap off bs hb n u vh vl wh wl s).way [(10, false), (7, false), (4, true), (4, true), (4, true), (4, true), (4, true), (4, true), (4, true), (0, true), (0, true), (10, false), (18, false), (20, false), (17, true), (3, true), (2, false), (18, true), (10, true), (4, false), (8, false), (19, true), (10, true), (4, false), (4, true), (0, true), (14, true), (4, false), (5, true), (3, true), (9, true), (8, true), (12, true), (9, true), (2, false), (4, true), (0, false), (2, true), (2, true), (6, false), (5, false), (18, true)] = some ([bkK0 s, bkK1 bs, okI n, udK (tx n), okU u, uuK (tx u), bkK2 wh wl, uwK (tx (W2 wh wl)), bkK3 off bs, bkK4 bs, unhexK (hexS (u8L bs)), udV (tx n) != n, uuV (tx u) != u, bkK5 wh wl, bkK6 bs, bkK7 off bs, bkK8 bs, udK s, okI (udV s), bkK24 s, uuK s, uwK s, bkK21 s, bkK22 s, bkK9 s, unhexK s, bkK19 s, bkK20 s, bkK10 vh vl, bkK2 wh wl, decide (vh ≥ 0), decide (wh ≥ 0), bkK17 vh vl wh wl, okW vh vl && okW wh wl, bkK18 vh vl wh wl, bkK9 s, bkK11 s, bkK12 s, bkK13 s, bkK14 s, bkK15 s, bkK16 s], Value.bool true) := by kernel_rfl
theorem back_b1yyyna_way (hR : Rt) (blk cap off : Nat) (bs : List UInt8) (hb : ∀ (j : Nat) v, (u8L bs)[j]? = some v → rootW.cell? ⟨blk, off + j, none⟩ = some v) (n u vh vl wh wl : Int) (s : ByteArray) : (bkR0 hR blk cap off bs hb n u vh vl wh wl s).way [(10, false), (7, false), (4, true), (4, true), (4, true), (4, true), (4, true), (4, true), (4, true), (0, true), (0, true), (10, false), (18, false), (20, false), (17, true), (3, true), (2, false), (18, true), (10, true), (4, false), (8, true), (10, true), (4, false), (8, true), (10, true), (4, false), (4, true), (0, false), (20, true), (3, true), (9, false), (26, true), (0, false), (2, true), (2, true), (6, false), (5, false), (18, true)] = some ([bkK0 s, bkK1 bs, okI n, udK (tx n), okU u, uuK (tx u), bkK2 wh wl, uwK (tx (W2 wh wl)), bkK3 off bs, bkK4 bs, unhexK (hexS (u8L bs)), udV (tx n) != n, uuV (tx u) != u, bkK5 wh wl, bkK6 bs, bkK7 off bs, bkK8 bs, udK s, okI (udV s), bkK24 s, uuK s, okU (uuV s), bkK23 s, uwK s, bkK21 s, bkK22 s, bkK9 s, unhexK s, bkK10 vh vl, bkK2 wh wl, decide (vh ≥ 0), bkK9 s, bkK11 s, bkK12 s, bkK13 s, bkK14 s, bkK15 s, bkK16 s], Value.bool true) := by kernel_rfl
theorem back_b1yyynb_way (hR : Rt) (blk cap off : Nat) (bs : List UInt8) (hb : ∀ (j : Nat) v, (u8L bs)[j]? = some v → rootW.cell? ⟨blk, off + j, none⟩ = some v) (n u vh vl wh wl : Int) (s : ByteArray) : (bkR0 hR blk cap off bs hb n u vh vl wh wl s).way [(10, false), (7, false), (4, true), (4, true), (4, true), (4, true), (4, true), (4, true), (4, true), (0, true), (0, true), (10, false), (18, false), (20, false), (17, true), (3, true), (2, false), (18, true), (10, true), (4, false), (8, true), (10, true), (4, false), (8, true), (10, true), (4, false), (4, true), (0, false), (20, true), (3, true), (9, true), (8, false), (21, true), (0, false), (2, true), (2, true), (6, false), (5, false), (18, true)] = some ([bkK0 s, bkK1 bs, okI n, udK (tx n), okU u, uuK (tx u), bkK2 wh wl, uwK (tx (W2 wh wl)), bkK3 off bs, bkK4 bs, unhexK (hexS (u8L bs)), udV (tx n) != n, uuV (tx u) != u, bkK5 wh wl, bkK6 bs, bkK7 off bs, bkK8 bs, udK s, okI (udV s), bkK24 s, uuK s, okU (uuV s), bkK23 s, uwK s, bkK21 s, bkK22 s, bkK9 s, unhexK s, bkK10 vh vl, bkK2 wh wl, decide (vh ≥ 0), decide (wh ≥ 0), bkK9 s, bkK11 s, bkK12 s, bkK13 s, bkK14 s, bkK15 s, bkK16 s], Value.bool true) := by kernel_rfl
theorem back_b1yyync_way (hR : Rt) (blk cap off : Nat) (bs : List UInt8) (hb : ∀ (j : Nat) v, (u8L bs)[j]? = some v → rootW.cell? ⟨blk, off + j, none⟩ = some v) (n u vh vl wh wl : Int) (s : ByteArray) : (bkR0 hR blk cap off bs hb n u vh vl wh wl s).way [(10, false), (7, false), (4, true), (4, true), (4, true), (4, true), (4, true), (4, true), (4, true), (0, true), (0, true), (10, false), (18, false), (20, false), (17, true), (3, true), (2, false), (18, true), (10, true), (4, false), (8, true), (10, true), (4, false), (8, true), (10, true), (4, false), (4, true), (0, false), (20, true), (3, true), (9, true), (8, true), (12, false), (12, true), (0, false), (2, true), (2, true), (6, false), (5, false), (18, true)] = some ([bkK0 s, bkK1 bs, okI n, udK (tx n), okU u, uuK (tx u), bkK2 wh wl, uwK (tx (W2 wh wl)), bkK3 off bs, bkK4 bs, unhexK (hexS (u8L bs)), udV (tx n) != n, uuV (tx u) != u, bkK5 wh wl, bkK6 bs, bkK7 off bs, bkK8 bs, udK s, okI (udV s), bkK24 s, uuK s, okU (uuV s), bkK23 s, uwK s, bkK21 s, bkK22 s, bkK9 s, unhexK s, bkK10 vh vl, bkK2 wh wl, decide (vh ≥ 0), decide (wh ≥ 0), bkK17 vh vl wh wl, bkK9 s, bkK11 s, bkK12 s, bkK13 s, bkK14 s, bkK15 s, bkK16 s], Value.bool true) := by kernel_rfl
theorem back_b1yyynd_way (hR : Rt) (blk cap off : Nat) (bs : List UInt8) (hb : ∀ (j : Nat) v, (u8L bs)[j]? = some v → rootW.cell? ⟨blk, off + j, none⟩ = some v) (n u vh vl wh wl : Int) (s : ByteArray) : (bkR0 hR blk cap off bs hb n u vh vl wh wl s).way [(10, false), (7, false), (4, true), (4, true), (4, true), (4, true), (4, true), (4, true), (4, true), (0, true), (0, true), (10, false), (18, false), (20, false), (17, true), (3, true), (2, false), (18, true), (10, true), (4, false), (8, true), (10, true), (4, false), (8, true), (10, true), (4, false), (4, true), (0, false), (20, true), (3, true), (9, true), (8, true), (12, true), (9, true), (2, false), (4, true), (0, false), (2, true), (2, true), (6, false), (5, false), (18, true)] = some ([bkK0 s, bkK1 bs, okI n, udK (tx n), okU u, uuK (tx u), bkK2 wh wl, uwK (tx (W2 wh wl)), bkK3 off bs, bkK4 bs, unhexK (hexS (u8L bs)), udV (tx n) != n, uuV (tx u) != u, bkK5 wh wl, bkK6 bs, bkK7 off bs, bkK8 bs, udK s, okI (udV s), bkK24 s, uuK s, okU (uuV s), bkK23 s, uwK s, bkK21 s, bkK22 s, bkK9 s, unhexK s, bkK10 vh vl, bkK2 wh wl, decide (vh ≥ 0), decide (wh ≥ 0), bkK17 vh vl wh wl, okW vh vl && okW wh wl, bkK18 vh vl wh wl, bkK9 s, bkK11 s, bkK12 s, bkK13 s, bkK14 s, bkK15 s, bkK16 s], Value.bool true) := by kernel_rfl
theorem back_b1yyyya_way (hR : Rt) (blk cap off : Nat) (bs : List UInt8) (hb : ∀ (j : Nat) v, (u8L bs)[j]? = some v → rootW.cell? ⟨blk, off + j, none⟩ = some v) (n u vh vl wh wl : Int) (s : ByteArray) : (bkR0 hR blk cap off bs hb n u vh vl wh wl s).way [(10, false), (7, false), (4, true), (4, true), (4, true), (4, true), (4, true), (4, true), (4, true), (0, true), (0, true), (10, false), (18, false), (20, false), (17, true), (3, true), (2, false), (18, true), (10, true), (4, false), (8, true), (10, true), (4, false), (8, true), (10, true), (4, false), (4, true), (0, true), (14, true), (4, false), (5, true), (3, true), (9, false), (26, true), (0, false), (2, true), (2, true), (6, false), (5, false), (18, true)] = some ([bkK0 s, bkK1 bs, okI n, udK (tx n), okU u, uuK (tx u), bkK2 wh wl, uwK (tx (W2 wh wl)), bkK3 off bs, bkK4 bs, unhexK (hexS (u8L bs)), udV (tx n) != n, uuV (tx u) != u, bkK5 wh wl, bkK6 bs, bkK7 off bs, bkK8 bs, udK s, okI (udV s), bkK24 s, uuK s, okU (uuV s), bkK23 s, uwK s, bkK21 s, bkK22 s, bkK9 s, unhexK s, bkK19 s, bkK20 s, bkK10 vh vl, bkK2 wh wl, decide (vh ≥ 0), bkK9 s, bkK11 s, bkK12 s, bkK13 s, bkK14 s, bkK15 s, bkK16 s], Value.bool true) := by kernel_rfl
theorem back_b1yyyyb_way (hR : Rt) (blk cap off : Nat) (bs : List UInt8) (hb : ∀ (j : Nat) v, (u8L bs)[j]? = some v → rootW.cell? ⟨blk, off + j, none⟩ = some v) (n u vh vl wh wl : Int) (s : ByteArray) : (bkR0 hR blk cap off bs hb n u vh vl wh wl s).way [(10, false), (7, false), (4, true), (4, true), (4, true), (4, true), (4, true), (4, true), (4, true), (0, true), (0, true), (10, false), (18, false), (20, false), (17, true), (3, true), (2, false), (18, true), (10, true), (4, false), (8, true), (10, true), (4, false), (8, true), (10, true), (4, false), (4, true), (0, true), (14, true), (4, false), (5, true), (3, true), (9, true), (8, false), (21, true), (0, false), (2, true), (2, true), (6, false), (5, false), (18, true)] = some ([bkK0 s, bkK1 bs, okI n, udK (tx n), okU u, uuK (tx u), bkK2 wh wl, uwK (tx (W2 wh wl)), bkK3 off bs, bkK4 bs, unhexK (hexS (u8L bs)), udV (tx n) != n, uuV (tx u) != u, bkK5 wh wl, bkK6 bs, bkK7 off bs, bkK8 bs, udK s, okI (udV s), bkK24 s, uuK s, okU (uuV s), bkK23 s, uwK s, bkK21 s, bkK22 s, bkK9 s, unhexK s, bkK19 s, bkK20 s, bkK10 vh vl, bkK2 wh wl, decide (vh ≥ 0), decide (wh ≥ 0), bkK9 s, bkK11 s, bkK12 s, bkK13 s, bkK14 s, bkK15 s, bkK16 s], Value.bool true) := by kernel_rfl
theorem back_b1yyyyc_way (hR : Rt) (blk cap off : Nat) (bs : List UInt8) (hb : ∀ (j : Nat) v, (u8L bs)[j]? = some v → rootW.cell? ⟨blk, off + j, none⟩ = some v) (n u vh vl wh wl : Int) (s : ByteArray) : (bkR0 hR blk cap off bs hb n u vh vl wh wl s).way [(10, false), (7, false), (4, true), (4, true), (4, true), (4, true), (4, true), (4, true), (4, true), (0, true), (0, true), (10, false), (18, false), (20, false), (17, true), (3, true), (2, false), (18, true), (10, true), (4, false), (8, true), (10, true), (4, false), (8, true), (10, true), (4, false), (4, true), (0, true), (14, true), (4, false), (5, true), (3, true), (9, true), (8, true), (12, false), (12, true), (0, false), (2, true), (2, true), (6, false), (5, false), (18, true)] = some ([bkK0 s, bkK1 bs, okI n, udK (tx n), okU u, uuK (tx u), bkK2 wh wl, uwK (tx (W2 wh wl)), bkK3 off bs, bkK4 bs, unhexK (hexS (u8L bs)), udV (tx n) != n, uuV (tx u) != u, bkK5 wh wl, bkK6 bs, bkK7 off bs, bkK8 bs, udK s, okI (udV s), bkK24 s, uuK s, okU (uuV s), bkK23 s, uwK s, bkK21 s, bkK22 s, bkK9 s, unhexK s, bkK19 s, bkK20 s, bkK10 vh vl, bkK2 wh wl, decide (vh ≥ 0), decide (wh ≥ 0), bkK17 vh vl wh wl, bkK9 s, bkK11 s, bkK12 s, bkK13 s, bkK14 s, bkK15 s, bkK16 s], Value.bool true) := by kernel_rfl
theorem back_b1yyyyd_way (hR : Rt) (blk cap off : Nat) (bs : List UInt8) (hb : ∀ (j : Nat) v, (u8L bs)[j]? = some v → rootW.cell? ⟨blk, off + j, none⟩ = some v) (n u vh vl wh wl : Int) (s : ByteArray) : (bkR0 hR blk cap off bs hb n u vh vl wh wl s).way [(10, false), (7, false), (4, true), (4, true), (4, true), (4, true), (4, true), (4, true), (4, true), (0, true), (0, true), (10, false), (18, false), (20, false), (17, true), (3, true), (2, false), (18, true), (10, true), (4, false), (8, true), (10, true), (4, false), (8, true), (10, true), (4, false), (4, true), (0, true), (14, true), (4, false), (5, true), (3, true), (9, true), (8, true), (12, true), (9, true), (2, false), (4, true), (0, false), (2, true), (2, true), (6, false), (5, false), (18, true)] = some ([bkK0 s, bkK1 bs, okI n, udK (tx n), okU u, uuK (tx u), bkK2 wh wl, uwK (tx (W2 wh wl)), bkK3 off bs, bkK4 bs, unhexK (hexS (u8L bs)), udV (tx n) != n, uuV (tx u) != u, bkK5 wh wl, bkK6 bs, bkK7 off bs, bkK8 bs, udK s, okI (udV s), bkK24 s, uuK s, okU (uuV s), bkK23 s, uwK s, bkK21 s, bkK22 s, bkK9 s, unhexK s, bkK19 s, bkK20 s, bkK10 vh vl, bkK2 wh wl, decide (vh ≥ 0), decide (wh ≥ 0), bkK17 vh vl wh wl, okW vh vl && okW wh wl, bkK18 vh vl wh wl, bkK9 s, bkK11 s, bkK12 s, bkK13 s, bkK14 s, bkK15 s, bkK16 s], Value.bool true) := by kernel_rfl
theorem back_b0nnnya_way (hR : Rt) (blk cap off : Nat) (bs : List UInt8) (hb : ∀ (j : Nat) v, (u8L bs)[j]? = some v → rootW.cell? ⟨blk, off + j, none⟩ = some v) (n u vh vl wh wl : Int) (s : ByteArray) : (bkR0 hR blk cap off bs hb n u vh vl wh wl s).way [(10, false), (7, false), (4, true), (4, true), (4, true), (4, true), (4, true), (4, true), (4, true), (0, true), (0, true), (10, false), (18, false), (20, false), (17, true), (3, true), (2, false), (18, false), (19, false), (19, false), (15, true), (0, true), (14, true), (4, false), (5, true), (3, true), (9, false), (26, true), (0, true), (5, true), (6, true), (24, true)] = some ([bkK0 s, bkK1 bs, okI n, udK (tx n), okU u, uuK (tx u), bkK2 wh wl, uwK (tx (W2 wh wl)), bkK3 off bs, bkK4 bs, unhexK (hexS (u8L bs)), udV (tx n) != n, uuV (tx u) != u, bkK5 wh wl, bkK6 bs, bkK7 off bs, bkK8 bs, udK s, uuK s, uwK s, bkK9 s, unhexK s, bkK19 s, bkK20 s, bkK10 vh vl, bkK2 wh wl, decide (vh ≥ 0), bkK9 s, bkK11 s, bkK25 s, bkK14 s, bkK26 s], Value.bool true) := by kernel_rfl
theorem back_b0nnnyb_way (hR : Rt) (blk cap off : Nat) (bs : List UInt8) (hb : ∀ (j : Nat) v, (u8L bs)[j]? = some v → rootW.cell? ⟨blk, off + j, none⟩ = some v) (n u vh vl wh wl : Int) (s : ByteArray) : (bkR0 hR blk cap off bs hb n u vh vl wh wl s).way [(10, false), (7, false), (4, true), (4, true), (4, true), (4, true), (4, true), (4, true), (4, true), (0, true), (0, true), (10, false), (18, false), (20, false), (17, true), (3, true), (2, false), (18, false), (19, false), (19, false), (15, true), (0, true), (14, true), (4, false), (5, true), (3, true), (9, true), (8, false), (21, true), (0, true), (5, true), (6, true), (24, true)] = some ([bkK0 s, bkK1 bs, okI n, udK (tx n), okU u, uuK (tx u), bkK2 wh wl, uwK (tx (W2 wh wl)), bkK3 off bs, bkK4 bs, unhexK (hexS (u8L bs)), udV (tx n) != n, uuV (tx u) != u, bkK5 wh wl, bkK6 bs, bkK7 off bs, bkK8 bs, udK s, uuK s, uwK s, bkK9 s, unhexK s, bkK19 s, bkK20 s, bkK10 vh vl, bkK2 wh wl, decide (vh ≥ 0), decide (wh ≥ 0), bkK9 s, bkK11 s, bkK25 s, bkK14 s, bkK26 s], Value.bool true) := by kernel_rfl
theorem back_b0nnnyc_way (hR : Rt) (blk cap off : Nat) (bs : List UInt8) (hb : ∀ (j : Nat) v, (u8L bs)[j]? = some v → rootW.cell? ⟨blk, off + j, none⟩ = some v) (n u vh vl wh wl : Int) (s : ByteArray) : (bkR0 hR blk cap off bs hb n u vh vl wh wl s).way [(10, false), (7, false), (4, true), (4, true), (4, true), (4, true), (4, true), (4, true), (4, true), (0, true), (0, true), (10, false), (18, false), (20, false), (17, true), (3, true), (2, false), (18, false), (19, false), (19, false), (15, true), (0, true), (14, true), (4, false), (5, true), (3, true), (9, true), (8, true), (12, false), (12, true), (0, true), (5, true), (6, true), (24, true)] = some ([bkK0 s, bkK1 bs, okI n, udK (tx n), okU u, uuK (tx u), bkK2 wh wl, uwK (tx (W2 wh wl)), bkK3 off bs, bkK4 bs, unhexK (hexS (u8L bs)), udV (tx n) != n, uuV (tx u) != u, bkK5 wh wl, bkK6 bs, bkK7 off bs, bkK8 bs, udK s, uuK s, uwK s, bkK9 s, unhexK s, bkK19 s, bkK20 s, bkK10 vh vl, bkK2 wh wl, decide (vh ≥ 0), decide (wh ≥ 0), bkK17 vh vl wh wl, bkK9 s, bkK11 s, bkK25 s, bkK14 s, bkK26 s], Value.bool true) := by kernel_rfl
theorem back_b0nnnyd_way (hR : Rt) (blk cap off : Nat) (bs : List UInt8) (hb : ∀ (j : Nat) v, (u8L bs)[j]? = some v → rootW.cell? ⟨blk, off + j, none⟩ = some v) (n u vh vl wh wl : Int) (s : ByteArray) : (bkR0 hR blk cap off bs hb n u vh vl wh wl s).way [(10, false), (7, false), (4, true), (4, true), (4, true), (4, true), (4, true), (4, true), (4, true), (0, true), (0, true), (10, false), (18, false), (20, false), (17, true), (3, true), (2, false), (18, false), (19, false), (19, false), (15, true), (0, true), (14, true), (4, false), (5, true), (3, true), (9, true), (8, true), (12, true), (9, true), (2, false), (4, true), (0, true), (5, true), (6, true), (24, true)] = some ([bkK0 s, bkK1 bs, okI n, udK (tx n), okU u, uuK (tx u), bkK2 wh wl, uwK (tx (W2 wh wl)), bkK3 off bs, bkK4 bs, unhexK (hexS (u8L bs)), udV (tx n) != n, uuV (tx u) != u, bkK5 wh wl, bkK6 bs, bkK7 off bs, bkK8 bs, udK s, uuK s, uwK s, bkK9 s, unhexK s, bkK19 s, bkK20 s, bkK10 vh vl, bkK2 wh wl, decide (vh ≥ 0), decide (wh ≥ 0), bkK17 vh vl wh wl, okW vh vl && okW wh wl, bkK18 vh vl wh wl, bkK9 s, bkK11 s, bkK25 s, bkK14 s, bkK26 s], Value.bool true) := by kernel_rfl
theorem back_n1nnnna_way (hR : Rt) (n u vh vl wh wl : Int) (s : ByteArray) : (bkR1 hR n u vh vl wh wl s).way [(10, false), (12, true), (4, true), (4, true), (4, true), (4, true), (4, true), (17, false), (18, false), (20, false), (43, false), (19, false), (19, false), (15, true), (0, false), (20, true), (3, true), (9, false), (26, true), (0, false), (2, true), (2, true), (6, false), (5, false), (18, true)] = some ([bkK0 s, okI n, udK (tx n), okU u, uuK (tx u), bkK2 wh wl, uwK (tx (W2 wh wl)), udV (tx n) != n, uuV (tx u) != u, bkK5 wh wl, udK s, uuK s, uwK s, bkK9 s, unhexK s, bkK10 vh vl, bkK2 wh wl, decide (vh ≥ 0), bkK9 s, bkK11 s, bkK12 s, bkK13 s, bkK14 s, bkK15 s, bkK16 s], Value.bool true) := by kernel_rfl
theorem back_n1nnnnb_way (hR : Rt) (n u vh vl wh wl : Int) (s : ByteArray) : (bkR1 hR n u vh vl wh wl s).way [(10, false), (12, true), (4, true), (4, true), (4, true), (4, true), (4, true), (17, false), (18, false), (20, false), (43, false), (19, false), (19, false), (15, true), (0, false), (20, true), (3, true), (9, true), (8, false), (21, true), (0, false), (2, true), (2, true), (6, false), (5, false), (18, true)] = some ([bkK0 s, okI n, udK (tx n), okU u, uuK (tx u), bkK2 wh wl, uwK (tx (W2 wh wl)), udV (tx n) != n, uuV (tx u) != u, bkK5 wh wl, udK s, uuK s, uwK s, bkK9 s, unhexK s, bkK10 vh vl, bkK2 wh wl, decide (vh ≥ 0), decide (wh ≥ 0), bkK9 s, bkK11 s, bkK12 s, bkK13 s, bkK14 s, bkK15 s, bkK16 s], Value.bool true) := by kernel_rfl
theorem back_n1nnnnc_way (hR : Rt) (n u vh vl wh wl : Int) (s : ByteArray) : (bkR1 hR n u vh vl wh wl s).way [(10, false), (12, true), (4, true), (4, true), (4, true), (4, true), (4, true), (17, false), (18, false), (20, false), (43, false), (19, false), (19, false), (15, true), (0, false), (20, true), (3, true), (9, true), (8, true), (12, false), (12, true), (0, false), (2, true), (2, true), (6, false), (5, false), (18, true)] = some ([bkK0 s, okI n, udK (tx n), okU u, uuK (tx u), bkK2 wh wl, uwK (tx (W2 wh wl)), udV (tx n) != n, uuV (tx u) != u, bkK5 wh wl, udK s, uuK s, uwK s, bkK9 s, unhexK s, bkK10 vh vl, bkK2 wh wl, decide (vh ≥ 0), decide (wh ≥ 0), bkK17 vh vl wh wl, bkK9 s, bkK11 s, bkK12 s, bkK13 s, bkK14 s, bkK15 s, bkK16 s], Value.bool true) := by kernel_rfl
theorem back_n1nnnnd_way (hR : Rt) (n u vh vl wh wl : Int) (s : ByteArray) : (bkR1 hR n u vh vl wh wl s).way [(10, false), (12, true), (4, true), (4, true), (4, true), (4, true), (4, true), (17, false), (18, false), (20, false), (43, false), (19, false), (19, false), (15, true), (0, false), (20, true), (3, true), (9, true), (8, true), (12, true), (9, true), (2, false), (4, true), (0, false), (2, true), (2, true), (6, false), (5, false), (18, true)] = some ([bkK0 s, okI n, udK (tx n), okU u, uuK (tx u), bkK2 wh wl, uwK (tx (W2 wh wl)), udV (tx n) != n, uuV (tx u) != u, bkK5 wh wl, udK s, uuK s, uwK s, bkK9 s, unhexK s, bkK10 vh vl, bkK2 wh wl, decide (vh ≥ 0), decide (wh ≥ 0), bkK17 vh vl wh wl, okW vh vl && okW wh wl, bkK18 vh vl wh wl, bkK9 s, bkK11 s, bkK12 s, bkK13 s, bkK14 s, bkK15 s, bkK16 s], Value.bool true) := by kernel_rfl
theorem back_n1nnnya_way (hR : Rt) (n u vh vl wh wl : Int) (s : ByteArray) : (bkR1 hR n u vh vl wh wl s).way [(10, false), (12, true), (4, true), (4, true), (4, true), (4, true), (4, true), (17, false), (18, false), (20, false), (43, false), (19, false), (19, false), (15, true), (0, true), (14, true), (4, false), (5, true), (3, true), (9, false), (26, true), (0, false), (2, true), (2, true), (6, false), (5, false), (18, true)] = some ([bkK0 s, okI n, udK (tx n), okU u, uuK (tx u), bkK2 wh wl, uwK (tx (W2 wh wl)), udV (tx n) != n, uuV (tx u) != u, bkK5 wh wl, udK s, uuK s, uwK s, bkK9 s, unhexK s, bkK19 s, bkK20 s, bkK10 vh vl, bkK2 wh wl, decide (vh ≥ 0), bkK9 s, bkK11 s, bkK12 s, bkK13 s, bkK14 s, bkK15 s, bkK16 s], Value.bool true) := by kernel_rfl
theorem back_n1nnnyb_way (hR : Rt) (n u vh vl wh wl : Int) (s : ByteArray) : (bkR1 hR n u vh vl wh wl s).way [(10, false), (12, true), (4, true), (4, true), (4, true), (4, true), (4, true), (17, false), (18, false), (20, false), (43, false), (19, false), (19, false), (15, true), (0, true), (14, true), (4, false), (5, true), (3, true), (9, true), (8, false), (21, true), (0, false), (2, true), (2, true), (6, false), (5, false), (18, true)] = some ([bkK0 s, okI n, udK (tx n), okU u, uuK (tx u), bkK2 wh wl, uwK (tx (W2 wh wl)), udV (tx n) != n, uuV (tx u) != u, bkK5 wh wl, udK s, uuK s, uwK s, bkK9 s, unhexK s, bkK19 s, bkK20 s, bkK10 vh vl, bkK2 wh wl, decide (vh ≥ 0), decide (wh ≥ 0), bkK9 s, bkK11 s, bkK12 s, bkK13 s, bkK14 s, bkK15 s, bkK16 s], Value.bool true) := by kernel_rfl
theorem back_n1nnnyc_way (hR : Rt) (n u vh vl wh wl : Int) (s : ByteArray) : (bkR1 hR n u vh vl wh wl s).way [(10, false), (12, true), (4, true), (4, true), (4, true), (4, true), (4, true), (17, false), (18, false), (20, false), (43, false), (19, false), (19, false), (15, true), (0, true), (14, true), (4, false), (5, true), (3, true), (9, true), (8, true), (12, false), (12, true), (0, false), (2, true), (2, true), (6, false), (5, false), (18, true)] = some ([bkK0 s, okI n, udK (tx n), okU u, uuK (tx u), bkK2 wh wl, uwK (tx (W2 wh wl)), udV (tx n) != n, uuV (tx u) != u, bkK5 wh wl, udK s, uuK s, uwK s, bkK9 s, unhexK s, bkK19 s, bkK20 s, bkK10 vh vl, bkK2 wh wl, decide (vh ≥ 0), decide (wh ≥ 0), bkK17 vh vl wh wl, bkK9 s, bkK11 s, bkK12 s, bkK13 s, bkK14 s, bkK15 s, bkK16 s], Value.bool true) := by kernel_rfl
theorem back_n1nnnyd_way (hR : Rt) (n u vh vl wh wl : Int) (s : ByteArray) : (bkR1 hR n u vh vl wh wl s).way [(10, false), (12, true), (4, true), (4, true), (4, true), (4, true), (4, true), (17, false), (18, false), (20, false), (43, false), (19, false), (19, false), (15, true), (0, true), (14, true), (4, false), (5, true), (3, true), (9, true), (8, true), (12, true), (9, true), (2, false), (4, true), (0, false), (2, true), (2, true), (6, false), (5, false), (18, true)] = some ([bkK0 s, okI n, udK (tx n), okU u, uuK (tx u), bkK2 wh wl, uwK (tx (W2 wh wl)), udV (tx n) != n, uuV (tx u) != u, bkK5 wh wl, udK s, uuK s, uwK s, bkK9 s, unhexK s, bkK19 s, bkK20 s, bkK10 vh vl, bkK2 wh wl, decide (vh ≥ 0), decide (wh ≥ 0), bkK17 vh vl wh wl, okW vh vl && okW wh wl, bkK18 vh vl wh wl, bkK9 s, bkK11 s, bkK12 s, bkK13 s, bkK14 s, bkK15 s, bkK16 s], Value.bool true) := by kernel_rfl
theorem back_n1nnyna_way (hR : Rt) (n u vh vl wh wl : Int) (s : ByteArray) : (bkR1 hR n u vh vl wh wl s).way [(10, false), (12, true), (4, true), (4, true), (4, true), (4, true), (4, true), (17, false), (18, false), (20, false), (43, false), (19, false), (19, true), (10, true), (4, false), (4, true), (0, false), (20, true), (3, true), (9, false), (26, true), (0, false), (2, true), (2, true), (6, false), (5, false), (18, true)] = some ([bkK0 s, okI n, udK (tx n), okU u, uuK (tx u), bkK2 wh wl, uwK (tx (W2 wh wl)), udV (tx n) != n, uuV (tx u) != u, bkK5 wh wl, udK s, uuK s, uwK s, bkK21 s, bkK22 s, bkK9 s, unhexK s, bkK10 vh vl, bkK2 wh wl, decide (vh ≥ 0), bkK9 s, bkK11 s, bkK12 s, bkK13 s, bkK14 s, bkK15 s, bkK16 s], Value.bool true) := by kernel_rfl
theorem back_n1nnynb_way (hR : Rt) (n u vh vl wh wl : Int) (s : ByteArray) : (bkR1 hR n u vh vl wh wl s).way [(10, false), (12, true), (4, true), (4, true), (4, true), (4, true), (4, true), (17, false), (18, false), (20, false), (43, false), (19, false), (19, true), (10, true), (4, false), (4, true), (0, false), (20, true), (3, true), (9, true), (8, false), (21, true), (0, false), (2, true), (2, true), (6, false), (5, false), (18, true)] = some ([bkK0 s, okI n, udK (tx n), okU u, uuK (tx u), bkK2 wh wl, uwK (tx (W2 wh wl)), udV (tx n) != n, uuV (tx u) != u, bkK5 wh wl, udK s, uuK s, uwK s, bkK21 s, bkK22 s, bkK9 s, unhexK s, bkK10 vh vl, bkK2 wh wl, decide (vh ≥ 0), decide (wh ≥ 0), bkK9 s, bkK11 s, bkK12 s, bkK13 s, bkK14 s, bkK15 s, bkK16 s], Value.bool true) := by kernel_rfl
theorem back_n1nnync_way (hR : Rt) (n u vh vl wh wl : Int) (s : ByteArray) : (bkR1 hR n u vh vl wh wl s).way [(10, false), (12, true), (4, true), (4, true), (4, true), (4, true), (4, true), (17, false), (18, false), (20, false), (43, false), (19, false), (19, true), (10, true), (4, false), (4, true), (0, false), (20, true), (3, true), (9, true), (8, true), (12, false), (12, true), (0, false), (2, true), (2, true), (6, false), (5, false), (18, true)] = some ([bkK0 s, okI n, udK (tx n), okU u, uuK (tx u), bkK2 wh wl, uwK (tx (W2 wh wl)), udV (tx n) != n, uuV (tx u) != u, bkK5 wh wl, udK s, uuK s, uwK s, bkK21 s, bkK22 s, bkK9 s, unhexK s, bkK10 vh vl, bkK2 wh wl, decide (vh ≥ 0), decide (wh ≥ 0), bkK17 vh vl wh wl, bkK9 s, bkK11 s, bkK12 s, bkK13 s, bkK14 s, bkK15 s, bkK16 s], Value.bool true) := by kernel_rfl
theorem back_n1nnynd_way (hR : Rt) (n u vh vl wh wl : Int) (s : ByteArray) : (bkR1 hR n u vh vl wh wl s).way [(10, false), (12, true), (4, true), (4, true), (4, true), (4, true), (4, true), (17, false), (18, false), (20, false), (43, false), (19, false), (19, true), (10, true), (4, false), (4, true), (0, false), (20, true), (3, true), (9, true), (8, true), (12, true), (9, true), (2, false), (4, true), (0, false), (2, true), (2, true), (6, false), (5, false), (18, true)] = some ([bkK0 s, okI n, udK (tx n), okU u, uuK (tx u), bkK2 wh wl, uwK (tx (W2 wh wl)), udV (tx n) != n, uuV (tx u) != u, bkK5 wh wl, udK s, uuK s, uwK s, bkK21 s, bkK22 s, bkK9 s, unhexK s, bkK10 vh vl, bkK2 wh wl, decide (vh ≥ 0), decide (wh ≥ 0), bkK17 vh vl wh wl, okW vh vl && okW wh wl, bkK18 vh vl wh wl, bkK9 s, bkK11 s, bkK12 s, bkK13 s, bkK14 s, bkK15 s, bkK16 s], Value.bool true) := by kernel_rfl
theorem back_n1nnyya_way (hR : Rt) (n u vh vl wh wl : Int) (s : ByteArray) : (bkR1 hR n u vh vl wh wl s).way [(10, false), (12, true), (4, true), (4, true), (4, true), (4, true), (4, true), (17, false), (18, false), (20, false), (43, false), (19, false), (19, true), (10, true), (4, false), (4, true), (0, true), (14, true), (4, false), (5, true), (3, true), (9, false), (26, true), (0, false), (2, true), (2, true), (6, false), (5, false), (18, true)] = some ([bkK0 s, okI n, udK (tx n), okU u, uuK (tx u), bkK2 wh wl, uwK (tx (W2 wh wl)), udV (tx n) != n, uuV (tx u) != u, bkK5 wh wl, udK s, uuK s, uwK s, bkK21 s, bkK22 s, bkK9 s, unhexK s, bkK19 s, bkK20 s, bkK10 vh vl, bkK2 wh wl, decide (vh ≥ 0), bkK9 s, bkK11 s, bkK12 s, bkK13 s, bkK14 s, bkK15 s, bkK16 s], Value.bool true) := by kernel_rfl
theorem back_n1nnyyb_way (hR : Rt) (n u vh vl wh wl : Int) (s : ByteArray) : (bkR1 hR n u vh vl wh wl s).way [(10, false), (12, true), (4, true), (4, true), (4, true), (4, true), (4, true), (17, false), (18, false), (20, false), (43, false), (19, false), (19, true), (10, true), (4, false), (4, true), (0, true), (14, true), (4, false), (5, true), (3, true), (9, true), (8, false), (21, true), (0, false), (2, true), (2, true), (6, false), (5, false), (18, true)] = some ([bkK0 s, okI n, udK (tx n), okU u, uuK (tx u), bkK2 wh wl, uwK (tx (W2 wh wl)), udV (tx n) != n, uuV (tx u) != u, bkK5 wh wl, udK s, uuK s, uwK s, bkK21 s, bkK22 s, bkK9 s, unhexK s, bkK19 s, bkK20 s, bkK10 vh vl, bkK2 wh wl, decide (vh ≥ 0), decide (wh ≥ 0), bkK9 s, bkK11 s, bkK12 s, bkK13 s, bkK14 s, bkK15 s, bkK16 s], Value.bool true) := by kernel_rfl
theorem back_n1nnyyc_way (hR : Rt) (n u vh vl wh wl : Int) (s : ByteArray) : (bkR1 hR n u vh vl wh wl s).way [(10, false), (12, true), (4, true), (4, true), (4, true), (4, true), (4, true), (17, false), (18, false), (20, false), (43, false), (19, false), (19, true), (10, true), (4, false), (4, true), (0, true), (14, true), (4, false), (5, true), (3, true), (9, true), (8, true), (12, false), (12, true), (0, false), (2, true), (2, true), (6, false), (5, false), (18, true)] = some ([bkK0 s, okI n, udK (tx n), okU u, uuK (tx u), bkK2 wh wl, uwK (tx (W2 wh wl)), udV (tx n) != n, uuV (tx u) != u, bkK5 wh wl, udK s, uuK s, uwK s, bkK21 s, bkK22 s, bkK9 s, unhexK s, bkK19 s, bkK20 s, bkK10 vh vl, bkK2 wh wl, decide (vh ≥ 0), decide (wh ≥ 0), bkK17 vh vl wh wl, bkK9 s, bkK11 s, bkK12 s, bkK13 s, bkK14 s, bkK15 s, bkK16 s], Value.bool true) := by kernel_rfl
theorem back_n1nnyyd_way (hR : Rt) (n u vh vl wh wl : Int) (s : ByteArray) : (bkR1 hR n u vh vl wh wl s).way [(10, false), (12, true), (4, true), (4, true), (4, true), (4, true), (4, true), (17, false), (18, false), (20, false), (43, false), (19, false), (19, true), (10, true), (4, false), (4, true), (0, true), (14, true), (4, false), (5, true), (3, true), (9, true), (8, true), (12, true), (9, true), (2, false), (4, true), (0, false), (2, true), (2, true), (6, false), (5, false), (18, true)] = some ([bkK0 s, okI n, udK (tx n), okU u, uuK (tx u), bkK2 wh wl, uwK (tx (W2 wh wl)), udV (tx n) != n, uuV (tx u) != u, bkK5 wh wl, udK s, uuK s, uwK s, bkK21 s, bkK22 s, bkK9 s, unhexK s, bkK19 s, bkK20 s, bkK10 vh vl, bkK2 wh wl, decide (vh ≥ 0), decide (wh ≥ 0), bkK17 vh vl wh wl, okW vh vl && okW wh wl, bkK18 vh vl wh wl, bkK9 s, bkK11 s, bkK12 s, bkK13 s, bkK14 s, bkK15 s, bkK16 s], Value.bool true) := by kernel_rfl
theorem back_n1nyyna_way (hR : Rt) (n u vh vl wh wl : Int) (s : ByteArray) : (bkR1 hR n u vh vl wh wl s).way [(10, false), (12, true), (4, true), (4, true), (4, true), (4, true), (4, true), (17, false), (18, false), (20, false), (43, false), (19, true), (10, true), (4, false), (8, true), (10, true), (4, false), (4, true), (0, false), (20, true), (3, true), (9, false), (26, true), (0, false), (2, true), (2, true), (6, false), (5, false), (18, true)] = some ([bkK0 s, okI n, udK (tx n), okU u, uuK (tx u), bkK2 wh wl, uwK (tx (W2 wh wl)), udV (tx n) != n, uuV (tx u) != u, bkK5 wh wl, udK s, uuK s, okU (uuV s), bkK23 s, uwK s, bkK21 s, bkK22 s, bkK9 s, unhexK s, bkK10 vh vl, bkK2 wh wl, decide (vh ≥ 0), bkK9 s, bkK11 s, bkK12 s, bkK13 s, bkK14 s, bkK15 s, bkK16 s], Value.bool true) := by kernel_rfl
theorem back_n1nyynb_way (hR : Rt) (n u vh vl wh wl : Int) (s : ByteArray) : (bkR1 hR n u vh vl wh wl s).way [(10, false), (12, true), (4, true), (4, true), (4, true), (4, true), (4, true), (17, false), (18, false), (20, false), (43, false), (19, true), (10, true), (4, false), (8, true), (10, true), (4, false), (4, true), (0, false), (20, true), (3, true), (9, true), (8, false), (21, true), (0, false), (2, true), (2, true), (6, false), (5, false), (18, true)] = some ([bkK0 s, okI n, udK (tx n), okU u, uuK (tx u), bkK2 wh wl, uwK (tx (W2 wh wl)), udV (tx n) != n, uuV (tx u) != u, bkK5 wh wl, udK s, uuK s, okU (uuV s), bkK23 s, uwK s, bkK21 s, bkK22 s, bkK9 s, unhexK s, bkK10 vh vl, bkK2 wh wl, decide (vh ≥ 0), decide (wh ≥ 0), bkK9 s, bkK11 s, bkK12 s, bkK13 s, bkK14 s, bkK15 s, bkK16 s], Value.bool true) := by kernel_rfl
theorem back_n1nyync_way (hR : Rt) (n u vh vl wh wl : Int) (s : ByteArray) : (bkR1 hR n u vh vl wh wl s).way [(10, false), (12, true), (4, true), (4, true), (4, true), (4, true), (4, true), (17, false), (18, false), (20, false), (43, false), (19, true), (10, true), (4, false), (8, true), (10, true), (4, false), (4, true), (0, false), (20, true), (3, true), (9, true), (8, true), (12, false), (12, true), (0, false), (2, true), (2, true), (6, false), (5, false), (18, true)] = some ([bkK0 s, okI n, udK (tx n), okU u, uuK (tx u), bkK2 wh wl, uwK (tx (W2 wh wl)), udV (tx n) != n, uuV (tx u) != u, bkK5 wh wl, udK s, uuK s, okU (uuV s), bkK23 s, uwK s, bkK21 s, bkK22 s, bkK9 s, unhexK s, bkK10 vh vl, bkK2 wh wl, decide (vh ≥ 0), decide (wh ≥ 0), bkK17 vh vl wh wl, bkK9 s, bkK11 s, bkK12 s, bkK13 s, bkK14 s, bkK15 s, bkK16 s], Value.bool true) := by kernel_rfl
theorem back_n1nyynd_way (hR : Rt) (n u vh vl wh wl : Int) (s : ByteArray) : (bkR1 hR n u vh vl wh wl s).way [(10, false), (12, true), (4, true), (4, true), (4, true), (4, true), (4, true), (17, false), (18, false), (20, false), (43, false), (19, true), (10, true), (4, false), (8, true), (10, true), (4, false), (4, true), (0, false), (20, true), (3, true), (9, true), (8, true), (12, true), (9, true), (2, false), (4, true), (0, false), (2, true), (2, true), (6, false), (5, false), (18, true)] = some ([bkK0 s, okI n, udK (tx n), okU u, uuK (tx u), bkK2 wh wl, uwK (tx (W2 wh wl)), udV (tx n) != n, uuV (tx u) != u, bkK5 wh wl, udK s, uuK s, okU (uuV s), bkK23 s, uwK s, bkK21 s, bkK22 s, bkK9 s, unhexK s, bkK10 vh vl, bkK2 wh wl, decide (vh ≥ 0), decide (wh ≥ 0), bkK17 vh vl wh wl, okW vh vl && okW wh wl, bkK18 vh vl wh wl, bkK9 s, bkK11 s, bkK12 s, bkK13 s, bkK14 s, bkK15 s, bkK16 s], Value.bool true) := by kernel_rfl
theorem back_n1nyyya_way (hR : Rt) (n u vh vl wh wl : Int) (s : ByteArray) : (bkR1 hR n u vh vl wh wl s).way [(10, false), (12, true), (4, true), (4, true), (4, true), (4, true), (4, true), (17, false), (18, false), (20, false), (43, false), (19, true), (10, true), (4, false), (8, true), (10, true), (4, false), (4, true), (0, true), (14, true), (4, false), (5, true), (3, true), (9, false), (26, true), (0, false), (2, true), (2, true), (6, false), (5, false), (18, true)] = some ([bkK0 s, okI n, udK (tx n), okU u, uuK (tx u), bkK2 wh wl, uwK (tx (W2 wh wl)), udV (tx n) != n, uuV (tx u) != u, bkK5 wh wl, udK s, uuK s, okU (uuV s), bkK23 s, uwK s, bkK21 s, bkK22 s, bkK9 s, unhexK s, bkK19 s, bkK20 s, bkK10 vh vl, bkK2 wh wl, decide (vh ≥ 0), bkK9 s, bkK11 s, bkK12 s, bkK13 s, bkK14 s, bkK15 s, bkK16 s], Value.bool true) := by kernel_rfl
theorem back_n1nyyyb_way (hR : Rt) (n u vh vl wh wl : Int) (s : ByteArray) : (bkR1 hR n u vh vl wh wl s).way [(10, false), (12, true), (4, true), (4, true), (4, true), (4, true), (4, true), (17, false), (18, false), (20, false), (43, false), (19, true), (10, true), (4, false), (8, true), (10, true), (4, false), (4, true), (0, true), (14, true), (4, false), (5, true), (3, true), (9, true), (8, false), (21, true), (0, false), (2, true), (2, true), (6, false), (5, false), (18, true)] = some ([bkK0 s, okI n, udK (tx n), okU u, uuK (tx u), bkK2 wh wl, uwK (tx (W2 wh wl)), udV (tx n) != n, uuV (tx u) != u, bkK5 wh wl, udK s, uuK s, okU (uuV s), bkK23 s, uwK s, bkK21 s, bkK22 s, bkK9 s, unhexK s, bkK19 s, bkK20 s, bkK10 vh vl, bkK2 wh wl, decide (vh ≥ 0), decide (wh ≥ 0), bkK9 s, bkK11 s, bkK12 s, bkK13 s, bkK14 s, bkK15 s, bkK16 s], Value.bool true) := by kernel_rfl
theorem back_n1nyyyc_way (hR : Rt) (n u vh vl wh wl : Int) (s : ByteArray) : (bkR1 hR n u vh vl wh wl s).way [(10, false), (12, true), (4, true), (4, true), (4, true), (4, true), (4, true), (17, false), (18, false), (20, false), (43, false), (19, true), (10, true), (4, false), (8, true), (10, true), (4, false), (4, true), (0, true), (14, true), (4, false), (5, true), (3, true), (9, true), (8, true), (12, false), (12, true), (0, false), (2, true), (2, true), (6, false), (5, false), (18, true)] = some ([bkK0 s, okI n, udK (tx n), okU u, uuK (tx u), bkK2 wh wl, uwK (tx (W2 wh wl)), udV (tx n) != n, uuV (tx u) != u, bkK5 wh wl, udK s, uuK s, okU (uuV s), bkK23 s, uwK s, bkK21 s, bkK22 s, bkK9 s, unhexK s, bkK19 s, bkK20 s, bkK10 vh vl, bkK2 wh wl, decide (vh ≥ 0), decide (wh ≥ 0), bkK17 vh vl wh wl, bkK9 s, bkK11 s, bkK12 s, bkK13 s, bkK14 s, bkK15 s, bkK16 s], Value.bool true) := by kernel_rfl
theorem back_n1nyyyd_way (hR : Rt) (n u vh vl wh wl : Int) (s : ByteArray) : (bkR1 hR n u vh vl wh wl s).way [(10, false), (12, true), (4, true), (4, true), (4, true), (4, true), (4, true), (17, false), (18, false), (20, false), (43, false), (19, true), (10, true), (4, false), (8, true), (10, true), (4, false), (4, true), (0, true), (14, true), (4, false), (5, true), (3, true), (9, true), (8, true), (12, true), (9, true), (2, false), (4, true), (0, false), (2, true), (2, true), (6, false), (5, false), (18, true)] = some ([bkK0 s, okI n, udK (tx n), okU u, uuK (tx u), bkK2 wh wl, uwK (tx (W2 wh wl)), udV (tx n) != n, uuV (tx u) != u, bkK5 wh wl, udK s, uuK s, okU (uuV s), bkK23 s, uwK s, bkK21 s, bkK22 s, bkK9 s, unhexK s, bkK19 s, bkK20 s, bkK10 vh vl, bkK2 wh wl, decide (vh ≥ 0), decide (wh ≥ 0), bkK17 vh vl wh wl, okW vh vl && okW wh wl, bkK18 vh vl wh wl, bkK9 s, bkK11 s, bkK12 s, bkK13 s, bkK14 s, bkK15 s, bkK16 s], Value.bool true) := by kernel_rfl
theorem back_n1ynyna_way (hR : Rt) (n u vh vl wh wl : Int) (s : ByteArray) : (bkR1 hR n u vh vl wh wl s).way [(10, false), (12, true), (4, true), (4, true), (4, true), (4, true), (4, true), (17, false), (18, false), (20, false), (43, true), (10, true), (4, false), (8, false), (19, true), (10, true), (4, false), (4, true), (0, false), (20, true), (3, true), (9, false), (26, true), (0, false), (2, true), (2, true), (6, false), (5, false), (18, true)] = some ([bkK0 s, okI n, udK (tx n), okU u, uuK (tx u), bkK2 wh wl, uwK (tx (W2 wh wl)), udV (tx n) != n, uuV (tx u) != u, bkK5 wh wl, udK s, okI (udV s), bkK24 s, uuK s, uwK s, bkK21 s, bkK22 s, bkK9 s, unhexK s, bkK10 vh vl, bkK2 wh wl, decide (vh ≥ 0), bkK9 s, bkK11 s, bkK12 s, bkK13 s, bkK14 s, bkK15 s, bkK16 s], Value.bool true) := by kernel_rfl
theorem back_n1ynynb_way (hR : Rt) (n u vh vl wh wl : Int) (s : ByteArray) : (bkR1 hR n u vh vl wh wl s).way [(10, false), (12, true), (4, true), (4, true), (4, true), (4, true), (4, true), (17, false), (18, false), (20, false), (43, true), (10, true), (4, false), (8, false), (19, true), (10, true), (4, false), (4, true), (0, false), (20, true), (3, true), (9, true), (8, false), (21, true), (0, false), (2, true), (2, true), (6, false), (5, false), (18, true)] = some ([bkK0 s, okI n, udK (tx n), okU u, uuK (tx u), bkK2 wh wl, uwK (tx (W2 wh wl)), udV (tx n) != n, uuV (tx u) != u, bkK5 wh wl, udK s, okI (udV s), bkK24 s, uuK s, uwK s, bkK21 s, bkK22 s, bkK9 s, unhexK s, bkK10 vh vl, bkK2 wh wl, decide (vh ≥ 0), decide (wh ≥ 0), bkK9 s, bkK11 s, bkK12 s, bkK13 s, bkK14 s, bkK15 s, bkK16 s], Value.bool true) := by kernel_rfl
theorem back_n1ynync_way (hR : Rt) (n u vh vl wh wl : Int) (s : ByteArray) : (bkR1 hR n u vh vl wh wl s).way [(10, false), (12, true), (4, true), (4, true), (4, true), (4, true), (4, true), (17, false), (18, false), (20, false), (43, true), (10, true), (4, false), (8, false), (19, true), (10, true), (4, false), (4, true), (0, false), (20, true), (3, true), (9, true), (8, true), (12, false), (12, true), (0, false), (2, true), (2, true), (6, false), (5, false), (18, true)] = some ([bkK0 s, okI n, udK (tx n), okU u, uuK (tx u), bkK2 wh wl, uwK (tx (W2 wh wl)), udV (tx n) != n, uuV (tx u) != u, bkK5 wh wl, udK s, okI (udV s), bkK24 s, uuK s, uwK s, bkK21 s, bkK22 s, bkK9 s, unhexK s, bkK10 vh vl, bkK2 wh wl, decide (vh ≥ 0), decide (wh ≥ 0), bkK17 vh vl wh wl, bkK9 s, bkK11 s, bkK12 s, bkK13 s, bkK14 s, bkK15 s, bkK16 s], Value.bool true) := by kernel_rfl
theorem back_n1ynynd_way (hR : Rt) (n u vh vl wh wl : Int) (s : ByteArray) : (bkR1 hR n u vh vl wh wl s).way [(10, false), (12, true), (4, true), (4, true), (4, true), (4, true), (4, true), (17, false), (18, false), (20, false), (43, true), (10, true), (4, false), (8, false), (19, true), (10, true), (4, false), (4, true), (0, false), (20, true), (3, true), (9, true), (8, true), (12, true), (9, true), (2, false), (4, true), (0, false), (2, true), (2, true), (6, false), (5, false), (18, true)] = some ([bkK0 s, okI n, udK (tx n), okU u, uuK (tx u), bkK2 wh wl, uwK (tx (W2 wh wl)), udV (tx n) != n, uuV (tx u) != u, bkK5 wh wl, udK s, okI (udV s), bkK24 s, uuK s, uwK s, bkK21 s, bkK22 s, bkK9 s, unhexK s, bkK10 vh vl, bkK2 wh wl, decide (vh ≥ 0), decide (wh ≥ 0), bkK17 vh vl wh wl, okW vh vl && okW wh wl, bkK18 vh vl wh wl, bkK9 s, bkK11 s, bkK12 s, bkK13 s, bkK14 s, bkK15 s, bkK16 s], Value.bool true) := by kernel_rfl
theorem back_n1ynyya_way (hR : Rt) (n u vh vl wh wl : Int) (s : ByteArray) : (bkR1 hR n u vh vl wh wl s).way [(10, false), (12, true), (4, true), (4, true), (4, true), (4, true), (4, true), (17, false), (18, false), (20, false), (43, true), (10, true), (4, false), (8, false), (19, true), (10, true), (4, false), (4, true), (0, true), (14, true), (4, false), (5, true), (3, true), (9, false), (26, true), (0, false), (2, true), (2, true), (6, false), (5, false), (18, true)] = some ([bkK0 s, okI n, udK (tx n), okU u, uuK (tx u), bkK2 wh wl, uwK (tx (W2 wh wl)), udV (tx n) != n, uuV (tx u) != u, bkK5 wh wl, udK s, okI (udV s), bkK24 s, uuK s, uwK s, bkK21 s, bkK22 s, bkK9 s, unhexK s, bkK19 s, bkK20 s, bkK10 vh vl, bkK2 wh wl, decide (vh ≥ 0), bkK9 s, bkK11 s, bkK12 s, bkK13 s, bkK14 s, bkK15 s, bkK16 s], Value.bool true) := by kernel_rfl
theorem back_n1ynyyb_way (hR : Rt) (n u vh vl wh wl : Int) (s : ByteArray) : (bkR1 hR n u vh vl wh wl s).way [(10, false), (12, true), (4, true), (4, true), (4, true), (4, true), (4, true), (17, false), (18, false), (20, false), (43, true), (10, true), (4, false), (8, false), (19, true), (10, true), (4, false), (4, true), (0, true), (14, true), (4, false), (5, true), (3, true), (9, true), (8, false), (21, true), (0, false), (2, true), (2, true), (6, false), (5, false), (18, true)] = some ([bkK0 s, okI n, udK (tx n), okU u, uuK (tx u), bkK2 wh wl, uwK (tx (W2 wh wl)), udV (tx n) != n, uuV (tx u) != u, bkK5 wh wl, udK s, okI (udV s), bkK24 s, uuK s, uwK s, bkK21 s, bkK22 s, bkK9 s, unhexK s, bkK19 s, bkK20 s, bkK10 vh vl, bkK2 wh wl, decide (vh ≥ 0), decide (wh ≥ 0), bkK9 s, bkK11 s, bkK12 s, bkK13 s, bkK14 s, bkK15 s, bkK16 s], Value.bool true) := by kernel_rfl
theorem back_n1ynyyc_way (hR : Rt) (n u vh vl wh wl : Int) (s : ByteArray) : (bkR1 hR n u vh vl wh wl s).way [(10, false), (12, true), (4, true), (4, true), (4, true), (4, true), (4, true), (17, false), (18, false), (20, false), (43, true), (10, true), (4, false), (8, false), (19, true), (10, true), (4, false), (4, true), (0, true), (14, true), (4, false), (5, true), (3, true), (9, true), (8, true), (12, false), (12, true), (0, false), (2, true), (2, true), (6, false), (5, false), (18, true)] = some ([bkK0 s, okI n, udK (tx n), okU u, uuK (tx u), bkK2 wh wl, uwK (tx (W2 wh wl)), udV (tx n) != n, uuV (tx u) != u, bkK5 wh wl, udK s, okI (udV s), bkK24 s, uuK s, uwK s, bkK21 s, bkK22 s, bkK9 s, unhexK s, bkK19 s, bkK20 s, bkK10 vh vl, bkK2 wh wl, decide (vh ≥ 0), decide (wh ≥ 0), bkK17 vh vl wh wl, bkK9 s, bkK11 s, bkK12 s, bkK13 s, bkK14 s, bkK15 s, bkK16 s], Value.bool true) := by kernel_rfl
theorem back_n1ynyyd_way (hR : Rt) (n u vh vl wh wl : Int) (s : ByteArray) : (bkR1 hR n u vh vl wh wl s).way [(10, false), (12, true), (4, true), (4, true), (4, true), (4, true), (4, true), (17, false), (18, false), (20, false), (43, true), (10, true), (4, false), (8, false), (19, true), (10, true), (4, false), (4, true), (0, true), (14, true), (4, false), (5, true), (3, true), (9, true), (8, true), (12, true), (9, true), (2, false), (4, true), (0, false), (2, true), (2, true), (6, false), (5, false), (18, true)] = some ([bkK0 s, okI n, udK (tx n), okU u, uuK (tx u), bkK2 wh wl, uwK (tx (W2 wh wl)), udV (tx n) != n, uuV (tx u) != u, bkK5 wh wl, udK s, okI (udV s), bkK24 s, uuK s, uwK s, bkK21 s, bkK22 s, bkK9 s, unhexK s, bkK19 s, bkK20 s, bkK10 vh vl, bkK2 wh wl, decide (vh ≥ 0), decide (wh ≥ 0), bkK17 vh vl wh wl, okW vh vl && okW wh wl, bkK18 vh vl wh wl, bkK9 s, bkK11 s, bkK12 s, bkK13 s, bkK14 s, bkK15 s, bkK16 s], Value.bool true) := by kernel_rfl
theorem back_n1yyyna_way (hR : Rt) (n u vh vl wh wl : Int) (s : ByteArray) : (bkR1 hR n u vh vl wh wl s).way [(10, false), (12, true), (4, true), (4, true), (4, true), (4, true), (4, true), (17, false), (18, false), (20, false), (43, true), (10, true), (4, false), (8, true), (10, true), (4, false), (8, true), (10, true), (4, false), (4, true), (0, false), (20, true), (3, true), (9, false), (26, true), (0, false), (2, true), (2, true), (6, false), (5, false), (18, true)] = some ([bkK0 s, okI n, udK (tx n), okU u, uuK (tx u), bkK2 wh wl, uwK (tx (W2 wh wl)), udV (tx n) != n, uuV (tx u) != u, bkK5 wh wl, udK s, okI (udV s), bkK24 s, uuK s, okU (uuV s), bkK23 s, uwK s, bkK21 s, bkK22 s, bkK9 s, unhexK s, bkK10 vh vl, bkK2 wh wl, decide (vh ≥ 0), bkK9 s, bkK11 s, bkK12 s, bkK13 s, bkK14 s, bkK15 s, bkK16 s], Value.bool true) := by kernel_rfl
theorem back_n1yyynb_way (hR : Rt) (n u vh vl wh wl : Int) (s : ByteArray) : (bkR1 hR n u vh vl wh wl s).way [(10, false), (12, true), (4, true), (4, true), (4, true), (4, true), (4, true), (17, false), (18, false), (20, false), (43, true), (10, true), (4, false), (8, true), (10, true), (4, false), (8, true), (10, true), (4, false), (4, true), (0, false), (20, true), (3, true), (9, true), (8, false), (21, true), (0, false), (2, true), (2, true), (6, false), (5, false), (18, true)] = some ([bkK0 s, okI n, udK (tx n), okU u, uuK (tx u), bkK2 wh wl, uwK (tx (W2 wh wl)), udV (tx n) != n, uuV (tx u) != u, bkK5 wh wl, udK s, okI (udV s), bkK24 s, uuK s, okU (uuV s), bkK23 s, uwK s, bkK21 s, bkK22 s, bkK9 s, unhexK s, bkK10 vh vl, bkK2 wh wl, decide (vh ≥ 0), decide (wh ≥ 0), bkK9 s, bkK11 s, bkK12 s, bkK13 s, bkK14 s, bkK15 s, bkK16 s], Value.bool true) := by kernel_rfl
theorem back_n1yyync_way (hR : Rt) (n u vh vl wh wl : Int) (s : ByteArray) : (bkR1 hR n u vh vl wh wl s).way [(10, false), (12, true), (4, true), (4, true), (4, true), (4, true), (4, true), (17, false), (18, false), (20, false), (43, true), (10, true), (4, false), (8, true), (10, true), (4, false), (8, true), (10, true), (4, false), (4, true), (0, false), (20, true), (3, true), (9, true), (8, true), (12, false), (12, true), (0, false), (2, true), (2, true), (6, false), (5, false), (18, true)] = some ([bkK0 s, okI n, udK (tx n), okU u, uuK (tx u), bkK2 wh wl, uwK (tx (W2 wh wl)), udV (tx n) != n, uuV (tx u) != u, bkK5 wh wl, udK s, okI (udV s), bkK24 s, uuK s, okU (uuV s), bkK23 s, uwK s, bkK21 s, bkK22 s, bkK9 s, unhexK s, bkK10 vh vl, bkK2 wh wl, decide (vh ≥ 0), decide (wh ≥ 0), bkK17 vh vl wh wl, bkK9 s, bkK11 s, bkK12 s, bkK13 s, bkK14 s, bkK15 s, bkK16 s], Value.bool true) := by kernel_rfl
theorem back_n1yyynd_way (hR : Rt) (n u vh vl wh wl : Int) (s : ByteArray) : (bkR1 hR n u vh vl wh wl s).way [(10, false), (12, true), (4, true), (4, true), (4, true), (4, true), (4, true), (17, false), (18, false), (20, false), (43, true), (10, true), (4, false), (8, true), (10, true), (4, false), (8, true), (10, true), (4, false), (4, true), (0, false), (20, true), (3, true), (9, true), (8, true), (12, true), (9, true), (2, false), (4, true), (0, false), (2, true), (2, true), (6, false), (5, false), (18, true)] = some ([bkK0 s, okI n, udK (tx n), okU u, uuK (tx u), bkK2 wh wl, uwK (tx (W2 wh wl)), udV (tx n) != n, uuV (tx u) != u, bkK5 wh wl, udK s, okI (udV s), bkK24 s, uuK s, okU (uuV s), bkK23 s, uwK s, bkK21 s, bkK22 s, bkK9 s, unhexK s, bkK10 vh vl, bkK2 wh wl, decide (vh ≥ 0), decide (wh ≥ 0), bkK17 vh vl wh wl, okW vh vl && okW wh wl, bkK18 vh vl wh wl, bkK9 s, bkK11 s, bkK12 s, bkK13 s, bkK14 s, bkK15 s, bkK16 s], Value.bool true) := by kernel_rfl
theorem back_n1yyyya_way (hR : Rt) (n u vh vl wh wl : Int) (s : ByteArray) : (bkR1 hR n u vh vl wh wl s).way [(10, false), (12, true), (4, true), (4, true), (4, true), (4, true), (4, true), (17, false), (18, false), (20, false), (43, true), (10, true), (4, false), (8, true), (10, true), (4, false), (8, true), (10, true), (4, false), (4, true), (0, true), (14, true), (4, false), (5, true), (3, true), (9, false), (26, true), (0, false), (2, true), (2, true), (6, false), (5, false), (18, true)] = some ([bkK0 s, okI n, udK (tx n), okU u, uuK (tx u), bkK2 wh wl, uwK (tx (W2 wh wl)), udV (tx n) != n, uuV (tx u) != u, bkK5 wh wl, udK s, okI (udV s), bkK24 s, uuK s, okU (uuV s), bkK23 s, uwK s, bkK21 s, bkK22 s, bkK9 s, unhexK s, bkK19 s, bkK20 s, bkK10 vh vl, bkK2 wh wl, decide (vh ≥ 0), bkK9 s, bkK11 s, bkK12 s, bkK13 s, bkK14 s, bkK15 s, bkK16 s], Value.bool true) := by kernel_rfl
theorem back_n1yyyyb_way (hR : Rt) (n u vh vl wh wl : Int) (s : ByteArray) : (bkR1 hR n u vh vl wh wl s).way [(10, false), (12, true), (4, true), (4, true), (4, true), (4, true), (4, true), (17, false), (18, false), (20, false), (43, true), (10, true), (4, false), (8, true), (10, true), (4, false), (8, true), (10, true), (4, false), (4, true), (0, true), (14, true), (4, false), (5, true), (3, true), (9, true), (8, false), (21, true), (0, false), (2, true), (2, true), (6, false), (5, false), (18, true)] = some ([bkK0 s, okI n, udK (tx n), okU u, uuK (tx u), bkK2 wh wl, uwK (tx (W2 wh wl)), udV (tx n) != n, uuV (tx u) != u, bkK5 wh wl, udK s, okI (udV s), bkK24 s, uuK s, okU (uuV s), bkK23 s, uwK s, bkK21 s, bkK22 s, bkK9 s, unhexK s, bkK19 s, bkK20 s, bkK10 vh vl, bkK2 wh wl, decide (vh ≥ 0), decide (wh ≥ 0), bkK9 s, bkK11 s, bkK12 s, bkK13 s, bkK14 s, bkK15 s, bkK16 s], Value.bool true) := by kernel_rfl
theorem back_n1yyyyc_way (hR : Rt) (n u vh vl wh wl : Int) (s : ByteArray) : (bkR1 hR n u vh vl wh wl s).way [(10, false), (12, true), (4, true), (4, true), (4, true), (4, true), (4, true), (17, false), (18, false), (20, false), (43, true), (10, true), (4, false), (8, true), (10, true), (4, false), (8, true), (10, true), (4, false), (4, true), (0, true), (14, true), (4, false), (5, true), (3, true), (9, true), (8, true), (12, false), (12, true), (0, false), (2, true), (2, true), (6, false), (5, false), (18, true)] = some ([bkK0 s, okI n, udK (tx n), okU u, uuK (tx u), bkK2 wh wl, uwK (tx (W2 wh wl)), udV (tx n) != n, uuV (tx u) != u, bkK5 wh wl, udK s, okI (udV s), bkK24 s, uuK s, okU (uuV s), bkK23 s, uwK s, bkK21 s, bkK22 s, bkK9 s, unhexK s, bkK19 s, bkK20 s, bkK10 vh vl, bkK2 wh wl, decide (vh ≥ 0), decide (wh ≥ 0), bkK17 vh vl wh wl, bkK9 s, bkK11 s, bkK12 s, bkK13 s, bkK14 s, bkK15 s, bkK16 s], Value.bool true) := by kernel_rfl
theorem back_n1yyyyd_way (hR : Rt) (n u vh vl wh wl : Int) (s : ByteArray) : (bkR1 hR n u vh vl wh wl s).way [(10, false), (12, true), (4, true), (4, true), (4, true), (4, true), (4, true), (17, false), (18, false), (20, false), (43, true), (10, true), (4, false), (8, true), (10, true), (4, false), (8, true), (10, true), (4, false), (4, true), (0, true), (14, true), (4, false), (5, true), (3, true), (9, true), (8, true), (12, true), (9, true), (2, false), (4, true), (0, false), (2, true), (2, true), (6, false), (5, false), (18, true)] = some ([bkK0 s, okI n, udK (tx n), okU u, uuK (tx u), bkK2 wh wl, uwK (tx (W2 wh wl)), udV (tx n) != n, uuV (tx u) != u, bkK5 wh wl, udK s, okI (udV s), bkK24 s, uuK s, okU (uuV s), bkK23 s, uwK s, bkK21 s, bkK22 s, bkK9 s, unhexK s, bkK19 s, bkK20 s, bkK10 vh vl, bkK2 wh wl, decide (vh ≥ 0), decide (wh ≥ 0), bkK17 vh vl wh wl, okW vh vl && okW wh wl, bkK18 vh vl wh wl, bkK9 s, bkK11 s, bkK12 s, bkK13 s, bkK14 s, bkK15 s, bkK16 s], Value.bool true) := by kernel_rfl
theorem back_n0nnnya_way (hR : Rt) (n u vh vl wh wl : Int) (s : ByteArray) : (bkR1 hR n u vh vl wh wl s).way [(10, false), (12, true), (4, true), (4, true), (4, true), (4, true), (4, true), (17, false), (18, false), (20, false), (43, false), (19, false), (19, false), (15, true), (0, true), (14, true), (4, false), (5, true), (3, true), (9, false), (26, true), (0, true), (5, true), (6, true), (24, true)] = some ([bkK0 s, okI n, udK (tx n), okU u, uuK (tx u), bkK2 wh wl, uwK (tx (W2 wh wl)), udV (tx n) != n, uuV (tx u) != u, bkK5 wh wl, udK s, uuK s, uwK s, bkK9 s, unhexK s, bkK19 s, bkK20 s, bkK10 vh vl, bkK2 wh wl, decide (vh ≥ 0), bkK9 s, bkK11 s, bkK25 s, bkK14 s, bkK26 s], Value.bool true) := by kernel_rfl
theorem back_n0nnnyb_way (hR : Rt) (n u vh vl wh wl : Int) (s : ByteArray) : (bkR1 hR n u vh vl wh wl s).way [(10, false), (12, true), (4, true), (4, true), (4, true), (4, true), (4, true), (17, false), (18, false), (20, false), (43, false), (19, false), (19, false), (15, true), (0, true), (14, true), (4, false), (5, true), (3, true), (9, true), (8, false), (21, true), (0, true), (5, true), (6, true), (24, true)] = some ([bkK0 s, okI n, udK (tx n), okU u, uuK (tx u), bkK2 wh wl, uwK (tx (W2 wh wl)), udV (tx n) != n, uuV (tx u) != u, bkK5 wh wl, udK s, uuK s, uwK s, bkK9 s, unhexK s, bkK19 s, bkK20 s, bkK10 vh vl, bkK2 wh wl, decide (vh ≥ 0), decide (wh ≥ 0), bkK9 s, bkK11 s, bkK25 s, bkK14 s, bkK26 s], Value.bool true) := by kernel_rfl
theorem back_n0nnnyc_way (hR : Rt) (n u vh vl wh wl : Int) (s : ByteArray) : (bkR1 hR n u vh vl wh wl s).way [(10, false), (12, true), (4, true), (4, true), (4, true), (4, true), (4, true), (17, false), (18, false), (20, false), (43, false), (19, false), (19, false), (15, true), (0, true), (14, true), (4, false), (5, true), (3, true), (9, true), (8, true), (12, false), (12, true), (0, true), (5, true), (6, true), (24, true)] = some ([bkK0 s, okI n, udK (tx n), okU u, uuK (tx u), bkK2 wh wl, uwK (tx (W2 wh wl)), udV (tx n) != n, uuV (tx u) != u, bkK5 wh wl, udK s, uuK s, uwK s, bkK9 s, unhexK s, bkK19 s, bkK20 s, bkK10 vh vl, bkK2 wh wl, decide (vh ≥ 0), decide (wh ≥ 0), bkK17 vh vl wh wl, bkK9 s, bkK11 s, bkK25 s, bkK14 s, bkK26 s], Value.bool true) := by kernel_rfl
theorem back_n0nnnyd_way (hR : Rt) (n u vh vl wh wl : Int) (s : ByteArray) : (bkR1 hR n u vh vl wh wl s).way [(10, false), (12, true), (4, true), (4, true), (4, true), (4, true), (4, true), (17, false), (18, false), (20, false), (43, false), (19, false), (19, false), (15, true), (0, true), (14, true), (4, false), (5, true), (3, true), (9, true), (8, true), (12, true), (9, true), (2, false), (4, true), (0, true), (5, true), (6, true), (24, true)] = some ([bkK0 s, okI n, udK (tx n), okU u, uuK (tx u), bkK2 wh wl, uwK (tx (W2 wh wl)), udV (tx n) != n, uuV (tx u) != u, bkK5 wh wl, udK s, uuK s, uwK s, bkK9 s, unhexK s, bkK19 s, bkK20 s, bkK10 vh vl, bkK2 wh wl, decide (vh ≥ 0), decide (wh ≥ 0), bkK17 vh vl wh wl, okW vh vl && okW wh wl, bkK18 vh vl wh wl, bkK9 s, bkK11 s, bkK25 s, bkK14 s, bkK26 s], Value.bool true) := by kernel_rfl
theorem back_b_ls_way (hR : Rt) (blk cap off : Nat) (bs : List UInt8) (hb : ∀ (j : Nat) v, (u8L bs)[j]? = some v → rootW.cell? ⟨blk, off + j, none⟩ = some v) (n u vh vl wh wl : Int) (s : ByteArray) : (bkR0 hR blk cap off bs hb n u vh vl wh wl s).way [(10, true)] = some ([bkK0 s], Value.bool true) := by kernel_rfl
theorem back_b_lb_way (hR : Rt) (blk cap off : Nat) (bs : List UInt8) (hb : ∀ (j : Nat) v, (u8L bs)[j]? = some v → rootW.cell? ⟨blk, off + j, none⟩ = some v) (n u vh vl wh wl : Int) (s : ByteArray) : (bkR0 hR blk cap off bs hb n u vh vl wh wl s).way [(10, false), (7, true)] = some ([bkK0 s, bkK1 bs], Value.bool true) := by kernel_rfl
theorem back_n_ls_way (hR : Rt) (n u vh vl wh wl : Int) (s : ByteArray) : (bkR1 hR n u vh vl wh wl s).way [(10, true)] = some ([bkK0 s], Value.bool true) := by kernel_rfl
end

end Go.Proofs.YtfjfmcnnakfjnaaDoor


/-
  TextBack is read to true.
-/

namespace Go.Proofs.YtfjfmcnnakfjnaaDoor

open Go.Den Go.RowKit
noncomputable section
set_option maxRecDepth 100000

set_option linter.unusedSectionVars false

variable [Inhabited Root]

set_option maxHeartbeats 8000000 in
theorem backT_some (hR : Rt) (blk cap off : Nat) (bs : List UInt8) (hb : ∀ (j : Nat) v, (u8L bs)[j]? = some v → rootW.cell? ⟨blk, off + j, none⟩ = some v) (n u v w : Int) (hn0 : -9223372036854775808 ≤ n) (hn1 : n ≤ 9223372036854775807) (hu0 : 0 ≤ u) (hu1 : u ≤ 18446744073709551615) (iv : InR v) (iw : InR w) (s : ByteArray) :
    ((evB hR blk cap off bs hb).call [] 6 #[.int .i64 n, .int .u64 u, .agg #[.int .i64 (hi v), .int .u64 (lo v)], .agg #[.int .i64 (hi w), .int .u64 (lo w)], .slice (some ⟨B0, off, none⟩) bs.length (B0 + 1), .string s] [] (B0 + 2)).holds fun r => r.v = .bool true := by
  rcases Nat.lt_or_ge 1000 s.size with hs1 | hs1
  · skip
    exact Tree.way_holds (back_b_ls_way hR blk cap off bs hb n u (hi v) (lo v) (hi w) (lo w) s) (by unfold bkK0; rw [int_gt hs1]; rfl)
  rcases Nat.lt_or_ge 1000 bs.length with hb1 | hb1
  · skip
    exact Tree.way_holds (back_b_lb_way hR blk cap off bs hb n u (hi v) (lo v) (hi w) (lo w) s) (by unfold bkK0 bkK1; rw [int_gt hb1, int_le hs1]; rfl)
  have c0 : (okI n) = true := okI_iff.2 ⟨hn0, hn1⟩
  have c1 : (udK (tx n)) = true := by rw [udK_tx hn0 hn1]
  have c2 : (okU u) = true := okU_iff.2 ⟨hu0, hu1⟩
  have c3 : (uuK (tx u)) = true := by rw [uuK_tx hu0 hu1]
  have c4 : (bkK2 (hi w) (lo w)) = true := by unfold bkK2; exact dw_ok iw
  have c5 : (bkK10 (hi v) (lo v)) = true := by unfold bkK10; exact dw_ok iv
  have c6 : (uwK (tx (W2 (hi w) (lo w)))) = true := by rw [W2_hilo, uwK_tx iw]
  have c7 : (udV (tx n) != n) = false := by rw [udV_tx hn0 hn1]; exact bne_self_eq_false n
  have c8 : (uuV (tx u) != u) = false := by rw [uuV_tx hu0 hu1]; exact bne_self_eq_false u
  have c9 : (bkK5 (hi w) (lo w)) = false := by unfold bkK5; rw [W2_hilo, uwV_tx iw, beq_self_eq_true, beq_self_eq_true]; rfl
  have c10 : (bkK3 off bs) = true := by unfold bkK3; exact args_ok bs hb1
  have c11 : (bkK7 off bs) = true := by unfold bkK7; exact args_ok8 bs
  have c12 : (bkK4 bs) = true := by unfold bkK4; rw [hexS_size, decide_eq_true_eq]; omega
  have c13 : (unhexK (hexS (u8L bs))) = true := unhexK_hexS bs
  have c14 : (bkK6 bs) = true := by unfold bkK6; exact back_ok (unhexV (hexS (u8L bs)))
  have c15 : (bkK8 bs) = false := by unfold bkK8; rw [unhexV_hexS, fext_u8L]; exact not_beq _
  have c16 : (bkK9 s) = true := by unfold bkK9; exact nat_le hs1
  have c17 : (bkK0 s) = false := by unfold bkK0; exact int_le hs1
  have c18 : (bkK1 bs) = false := by unfold bkK1; exact int_le hb1
  by_cases hv : hi v ≥ 0
  · by_cases hw : hi w ≥ 0
    · by_cases hl : (((tx (W2 (hi v) (lo v))).size : Nat) : Int) < (((tx (W2 (hi w) (lo w))).size : Nat) : Int)
      · skip
        have c19 : (decide ((hi v) ≥ 0)) = true := decide_eq_true hv
        have c20 : (decide ((hi w) ≥ 0)) = true := decide_eq_true hw
        have c21 : (bkK17 (hi v) (lo v) (hi w) (lo w)) = true := by unfold bkK17; exact decide_eq_true hl
        have c22 : (okW (hi v) (lo v) && okW (hi w) (lo w)) = true := by rw [okW_hilo iv, okW_hilo iw]; rfl
        have c23 : (bkK18 (hi v) (lo v) (hi w) (lo w)) = false := by unfold bkK18; exact cmp_less iv iw hv hw hl
        by_cases hz : s.size = 0
        · obtain ⟨h2, h3, h1, h4⟩ := empty_k hz
          have c24 : (udK s) = false := h2
          have c25 : (uuK s) = false := h3
          have c26 : (uwK s) = false := h1
          have c27 : (unhexK s) = true := h4
          have c28 : (bkK19 s) = true := by unfold bkK19; exact unhex_ok s hs1
          have c29 : (bkK20 s) = false := by unfold bkK20; rw [hex_back h4]; exact not_beq _
          have c30 : (bkK11 s) = true := by unfold bkK11; exact decide_eq_true hz
          have c31 : (bkK25 s) = true := by unfold bkK25; exact empty_eq hz
          have c32 : (bkK14 s) = true := by unfold bkK14; exact empty_eq2 hz
          have c33 : (bkK26 s) = true := by unfold bkK26; exact count_zero s hs1
          exact Tree.way_holds (back_b0nnnyd_way hR blk cap off bs hb n u (hi v) (lo v) (hi w) (lo w) s) (by rw [c17, c18, c0, c1, c2, c3, c4, c6, c10, c12, c13, c7, c8, c9, c14, c11, c15, c24, c25, c26, c16, c27, c28, c29, c5, c19, c20, c21, c22, c23, c30, c31, c32, c33]; rfl)
        · skip
          have c34 : (bkK11 s) = false := by unfold bkK11; exact decide_eq_false hz
          have c35 : (bkK12 s) = true := by unfold bkK12; exact join_ok s hs1
          have c36 : (bkK13 s) = true := by unfold bkK13; exact join_eq s
          have c37 : (bkK14 s) = false := by unfold bkK14; exact nonempty_eq hz
          have c38 : (bkK15 s) = false := by unfold bkK15; exact fields_pos s
          have c39 : (bkK16 s) = true := by unfold bkK16; exact count_ok s hs1
          cases h1 : uwK s
          · obtain ⟨h2, h3⟩ := no_uw h1
            have c24 : (udK s) = false := h2
            have c25 : (uuK s) = false := h3
            have c26 : (uwK s) = false := h1
            cases h4 : unhexK s
            · skip
              have c40 : (unhexK s) = false := h4
              exact Tree.way_holds (back_b1nnnnd_way hR blk cap off bs hb n u (hi v) (lo v) (hi w) (lo w) s) (by rw [c17, c18, c0, c1, c2, c3, c4, c6, c10, c12, c13, c7, c8, c9, c14, c11, c15, c24, c25, c26, c16, c40, c5, c19, c20, c21, c22, c23, c34, c35, c36, c37, c38, c39]; rfl)
            · skip
              have c27 : (unhexK s) = true := h4
              have c28 : (bkK19 s) = true := by unfold bkK19; exact unhex_ok s hs1
              have c29 : (bkK20 s) = false := by unfold bkK20; rw [hex_back h4]; exact not_beq _
              exact Tree.way_holds (back_b1nnnyd_way hR blk cap off bs hb n u (hi v) (lo v) (hi w) (lo w) s) (by rw [c17, c18, c0, c1, c2, c3, c4, c6, c10, c12, c13, c7, c8, c9, c14, c11, c15, c24, c25, c26, c16, c27, c28, c29, c5, c19, c20, c21, c22, c23, c34, c35, c36, c37, c38, c39]; rfl)
          · skip
            have c41 : (uwK s) = true := h1
            have c42 : (bkK21 s) = true := by unfold bkK21; exact dw_ok (uwV_in s)
            have c43 : (bkK22 s) = false := by unfold bkK22; rw [W2_hilo, uwV_ok h1]; exact not_beq _
            cases h2 : udK s <;> cases h3 : uuK s <;> cases h4 : unhexK s
            · skip
              have c24 : (udK s) = false := h2
              have c25 : (uuK s) = false := h3
              have c40 : (unhexK s) = false := h4
              exact Tree.way_holds (back_b1nnynd_way hR blk cap off bs hb n u (hi v) (lo v) (hi w) (lo w) s) (by rw [c17, c18, c0, c1, c2, c3, c4, c6, c10, c12, c13, c7, c8, c9, c14, c11, c15, c24, c25, c41, c42, c43, c16, c40, c5, c19, c20, c21, c22, c23, c34, c35, c36, c37, c38, c39]; rfl)
            · skip
              have c24 : (udK s) = false := h2
              have c25 : (uuK s) = false := h3
              have c27 : (unhexK s) = true := h4
              have c28 : (bkK19 s) = true := by unfold bkK19; exact unhex_ok s hs1
              have c29 : (bkK20 s) = false := by unfold bkK20; rw [hex_back h4]; exact not_beq _
              exact Tree.way_holds (back_b1nnyyd_way hR blk cap off bs hb n u (hi v) (lo v) (hi w) (lo w) s) (by rw [c17, c18, c0, c1, c2, c3, c4, c6, c10, c12, c13, c7, c8, c9, c14, c11, c15, c24, c25, c41, c42, c43, c16, c27, c28, c29, c5, c19, c20, c21, c22, c23, c34, c35, c36, c37, c38, c39]; rfl)
            · skip
              have c24 : (udK s) = false := h2
              have c44 : (uuK s) = true := h3
              have c45 : (okU (uuV s)) = true := (uuV_ok h3).1
              have c46 : (bkK23 s) = false := by unfold bkK23; rw [(uuV_ok h3).2]; exact not_beq _
              have c40 : (unhexK s) = false := h4
              exact Tree.way_holds (back_b1nyynd_way hR blk cap off bs hb n u (hi v) (lo v) (hi w) (lo w) s) (by rw [c17, c18, c0, c1, c2, c3, c4, c6, c10, c12, c13, c7, c8, c9, c14, c11, c15, c24, c44, c45, c46, c41, c42, c43, c16, c40, c5, c19, c20, c21, c22, c23, c34, c35, c36, c37, c38, c39]; rfl)
            · skip
              have c24 : (udK s) = false := h2
              have c44 : (uuK s) = true := h3
              have c45 : (okU (uuV s)) = true := (uuV_ok h3).1
              have c46 : (bkK23 s) = false := by unfold bkK23; rw [(uuV_ok h3).2]; exact not_beq _
              have c27 : (unhexK s) = true := h4
              have c28 : (bkK19 s) = true := by unfold bkK19; exact unhex_ok s hs1
              have c29 : (bkK20 s) = false := by unfold bkK20; rw [hex_back h4]; exact not_beq _
              exact Tree.way_holds (back_b1nyyyd_way hR blk cap off bs hb n u (hi v) (lo v) (hi w) (lo w) s) (by rw [c17, c18, c0, c1, c2, c3, c4, c6, c10, c12, c13, c7, c8, c9, c14, c11, c15, c24, c44, c45, c46, c41, c42, c43, c16, c27, c28, c29, c5, c19, c20, c21, c22, c23, c34, c35, c36, c37, c38, c39]; rfl)
            · skip
              have c47 : (udK s) = true := h2
              have c48 : (okI (udV s)) = true := (udV_ok h2).1
              have c49 : (bkK24 s) = false := by unfold bkK24; rw [(udV_ok h2).2]; exact not_beq _
              have c25 : (uuK s) = false := h3
              have c40 : (unhexK s) = false := h4
              exact Tree.way_holds (back_b1ynynd_way hR blk cap off bs hb n u (hi v) (lo v) (hi w) (lo w) s) (by rw [c17, c18, c0, c1, c2, c3, c4, c6, c10, c12, c13, c7, c8, c9, c14, c11, c15, c47, c48, c49, c25, c41, c42, c43, c16, c40, c5, c19, c20, c21, c22, c23, c34, c35, c36, c37, c38, c39]; rfl)
            · skip
              have c47 : (udK s) = true := h2
              have c48 : (okI (udV s)) = true := (udV_ok h2).1
              have c49 : (bkK24 s) = false := by unfold bkK24; rw [(udV_ok h2).2]; exact not_beq _
              have c25 : (uuK s) = false := h3
              have c27 : (unhexK s) = true := h4
              have c28 : (bkK19 s) = true := by unfold bkK19; exact unhex_ok s hs1
              have c29 : (bkK20 s) = false := by unfold bkK20; rw [hex_back h4]; exact not_beq _
              exact Tree.way_holds (back_b1ynyyd_way hR blk cap off bs hb n u (hi v) (lo v) (hi w) (lo w) s) (by rw [c17, c18, c0, c1, c2, c3, c4, c6, c10, c12, c13, c7, c8, c9, c14, c11, c15, c47, c48, c49, c25, c41, c42, c43, c16, c27, c28, c29, c5, c19, c20, c21, c22, c23, c34, c35, c36, c37, c38, c39]; rfl)
            · skip
              have c47 : (udK s) = true := h2
              have c48 : (okI (udV s)) = true := (udV_ok h2).1
              have c49 : (bkK24 s) = false := by unfold bkK24; rw [(udV_ok h2).2]; exact not_beq _
              have c44 : (uuK s) = true := h3
              have c45 : (okU (uuV s)) = true := (uuV_ok h3).1
              have c46 : (bkK23 s) = false := by unfold bkK23; rw [(uuV_ok h3).2]; exact not_beq _
              have c40 : (unhexK s) = false := h4
              exact Tree.way_holds (back_b1yyynd_way hR blk cap off bs hb n u (hi v) (lo v) (hi w) (lo w) s) (by rw [c17, c18, c0, c1, c2, c3, c4, c6, c10, c12, c13, c7, c8, c9, c14, c11, c15, c47, c48, c49, c44, c45, c46, c41, c42, c43, c16, c40, c5, c19, c20, c21, c22, c23, c34, c35, c36, c37, c38, c39]; rfl)
            · skip
              have c47 : (udK s) = true := h2
              have c48 : (okI (udV s)) = true := (udV_ok h2).1
              have c49 : (bkK24 s) = false := by unfold bkK24; rw [(udV_ok h2).2]; exact not_beq _
              have c44 : (uuK s) = true := h3
              have c45 : (okU (uuV s)) = true := (uuV_ok h3).1
              have c46 : (bkK23 s) = false := by unfold bkK23; rw [(uuV_ok h3).2]; exact not_beq _
              have c27 : (unhexK s) = true := h4
              have c28 : (bkK19 s) = true := by unfold bkK19; exact unhex_ok s hs1
              have c29 : (bkK20 s) = false := by unfold bkK20; rw [hex_back h4]; exact not_beq _
              exact Tree.way_holds (back_b1yyyyd_way hR blk cap off bs hb n u (hi v) (lo v) (hi w) (lo w) s) (by rw [c17, c18, c0, c1, c2, c3, c4, c6, c10, c12, c13, c7, c8, c9, c14, c11, c15, c47, c48, c49, c44, c45, c46, c41, c42, c43, c16, c27, c28, c29, c5, c19, c20, c21, c22, c23, c34, c35, c36, c37, c38, c39]; rfl)
      · skip
        have c19 : (decide ((hi v) ≥ 0)) = true := decide_eq_true hv
        have c20 : (decide ((hi w) ≥ 0)) = true := decide_eq_true hw
        have c50 : (bkK17 (hi v) (lo v) (hi w) (lo w)) = false := by unfold bkK17; exact decide_eq_false hl
        by_cases hz : s.size = 0
        · obtain ⟨h2, h3, h1, h4⟩ := empty_k hz
          have c24 : (udK s) = false := h2
          have c25 : (uuK s) = false := h3
          have c26 : (uwK s) = false := h1
          have c27 : (unhexK s) = true := h4
          have c28 : (bkK19 s) = true := by unfold bkK19; exact unhex_ok s hs1
          have c29 : (bkK20 s) = false := by unfold bkK20; rw [hex_back h4]; exact not_beq _
          have c30 : (bkK11 s) = true := by unfold bkK11; exact decide_eq_true hz
          have c31 : (bkK25 s) = true := by unfold bkK25; exact empty_eq hz
          have c32 : (bkK14 s) = true := by unfold bkK14; exact empty_eq2 hz
          have c33 : (bkK26 s) = true := by unfold bkK26; exact count_zero s hs1
          exact Tree.way_holds (back_b0nnnyc_way hR blk cap off bs hb n u (hi v) (lo v) (hi w) (lo w) s) (by rw [c17, c18, c0, c1, c2, c3, c4, c6, c10, c12, c13, c7, c8, c9, c14, c11, c15, c24, c25, c26, c16, c27, c28, c29, c5, c19, c20, c50, c30, c31, c32, c33]; rfl)
        · skip
          have c34 : (bkK11 s) = false := by unfold bkK11; exact decide_eq_false hz
          have c35 : (bkK12 s) = true := by unfold bkK12; exact join_ok s hs1
          have c36 : (bkK13 s) = true := by unfold bkK13; exact join_eq s
          have c37 : (bkK14 s) = false := by unfold bkK14; exact nonempty_eq hz
          have c38 : (bkK15 s) = false := by unfold bkK15; exact fields_pos s
          have c39 : (bkK16 s) = true := by unfold bkK16; exact count_ok s hs1
          cases h1 : uwK s
          · obtain ⟨h2, h3⟩ := no_uw h1
            have c24 : (udK s) = false := h2
            have c25 : (uuK s) = false := h3
            have c26 : (uwK s) = false := h1
            cases h4 : unhexK s
            · skip
              have c40 : (unhexK s) = false := h4
              exact Tree.way_holds (back_b1nnnnc_way hR blk cap off bs hb n u (hi v) (lo v) (hi w) (lo w) s) (by rw [c17, c18, c0, c1, c2, c3, c4, c6, c10, c12, c13, c7, c8, c9, c14, c11, c15, c24, c25, c26, c16, c40, c5, c19, c20, c50, c34, c35, c36, c37, c38, c39]; rfl)
            · skip
              have c27 : (unhexK s) = true := h4
              have c28 : (bkK19 s) = true := by unfold bkK19; exact unhex_ok s hs1
              have c29 : (bkK20 s) = false := by unfold bkK20; rw [hex_back h4]; exact not_beq _
              exact Tree.way_holds (back_b1nnnyc_way hR blk cap off bs hb n u (hi v) (lo v) (hi w) (lo w) s) (by rw [c17, c18, c0, c1, c2, c3, c4, c6, c10, c12, c13, c7, c8, c9, c14, c11, c15, c24, c25, c26, c16, c27, c28, c29, c5, c19, c20, c50, c34, c35, c36, c37, c38, c39]; rfl)
          · skip
            have c41 : (uwK s) = true := h1
            have c42 : (bkK21 s) = true := by unfold bkK21; exact dw_ok (uwV_in s)
            have c43 : (bkK22 s) = false := by unfold bkK22; rw [W2_hilo, uwV_ok h1]; exact not_beq _
            cases h2 : udK s <;> cases h3 : uuK s <;> cases h4 : unhexK s
            · skip
              have c24 : (udK s) = false := h2
              have c25 : (uuK s) = false := h3
              have c40 : (unhexK s) = false := h4
              exact Tree.way_holds (back_b1nnync_way hR blk cap off bs hb n u (hi v) (lo v) (hi w) (lo w) s) (by rw [c17, c18, c0, c1, c2, c3, c4, c6, c10, c12, c13, c7, c8, c9, c14, c11, c15, c24, c25, c41, c42, c43, c16, c40, c5, c19, c20, c50, c34, c35, c36, c37, c38, c39]; rfl)
            · skip
              have c24 : (udK s) = false := h2
              have c25 : (uuK s) = false := h3
              have c27 : (unhexK s) = true := h4
              have c28 : (bkK19 s) = true := by unfold bkK19; exact unhex_ok s hs1
              have c29 : (bkK20 s) = false := by unfold bkK20; rw [hex_back h4]; exact not_beq _
              exact Tree.way_holds (back_b1nnyyc_way hR blk cap off bs hb n u (hi v) (lo v) (hi w) (lo w) s) (by rw [c17, c18, c0, c1, c2, c3, c4, c6, c10, c12, c13, c7, c8, c9, c14, c11, c15, c24, c25, c41, c42, c43, c16, c27, c28, c29, c5, c19, c20, c50, c34, c35, c36, c37, c38, c39]; rfl)
            · skip
              have c24 : (udK s) = false := h2
              have c44 : (uuK s) = true := h3
              have c45 : (okU (uuV s)) = true := (uuV_ok h3).1
              have c46 : (bkK23 s) = false := by unfold bkK23; rw [(uuV_ok h3).2]; exact not_beq _
              have c40 : (unhexK s) = false := h4
              exact Tree.way_holds (back_b1nyync_way hR blk cap off bs hb n u (hi v) (lo v) (hi w) (lo w) s) (by rw [c17, c18, c0, c1, c2, c3, c4, c6, c10, c12, c13, c7, c8, c9, c14, c11, c15, c24, c44, c45, c46, c41, c42, c43, c16, c40, c5, c19, c20, c50, c34, c35, c36, c37, c38, c39]; rfl)
            · skip
              have c24 : (udK s) = false := h2
              have c44 : (uuK s) = true := h3
              have c45 : (okU (uuV s)) = true := (uuV_ok h3).1
              have c46 : (bkK23 s) = false := by unfold bkK23; rw [(uuV_ok h3).2]; exact not_beq _
              have c27 : (unhexK s) = true := h4
              have c28 : (bkK19 s) = true := by unfold bkK19; exact unhex_ok s hs1
              have c29 : (bkK20 s) = false := by unfold bkK20; rw [hex_back h4]; exact not_beq _
              exact Tree.way_holds (back_b1nyyyc_way hR blk cap off bs hb n u (hi v) (lo v) (hi w) (lo w) s) (by rw [c17, c18, c0, c1, c2, c3, c4, c6, c10, c12, c13, c7, c8, c9, c14, c11, c15, c24, c44, c45, c46, c41, c42, c43, c16, c27, c28, c29, c5, c19, c20, c50, c34, c35, c36, c37, c38, c39]; rfl)
            · skip
              have c47 : (udK s) = true := h2
              have c48 : (okI (udV s)) = true := (udV_ok h2).1
              have c49 : (bkK24 s) = false := by unfold bkK24; rw [(udV_ok h2).2]; exact not_beq _
              have c25 : (uuK s) = false := h3
              have c40 : (unhexK s) = false := h4
              exact Tree.way_holds (back_b1ynync_way hR blk cap off bs hb n u (hi v) (lo v) (hi w) (lo w) s) (by rw [c17, c18, c0, c1, c2, c3, c4, c6, c10, c12, c13, c7, c8, c9, c14, c11, c15, c47, c48, c49, c25, c41, c42, c43, c16, c40, c5, c19, c20, c50, c34, c35, c36, c37, c38, c39]; rfl)
            · skip
              have c47 : (udK s) = true := h2
              have c48 : (okI (udV s)) = true := (udV_ok h2).1
              have c49 : (bkK24 s) = false := by unfold bkK24; rw [(udV_ok h2).2]; exact not_beq _
              have c25 : (uuK s) = false := h3
              have c27 : (unhexK s) = true := h4
              have c28 : (bkK19 s) = true := by unfold bkK19; exact unhex_ok s hs1
              have c29 : (bkK20 s) = false := by unfold bkK20; rw [hex_back h4]; exact not_beq _
              exact Tree.way_holds (back_b1ynyyc_way hR blk cap off bs hb n u (hi v) (lo v) (hi w) (lo w) s) (by rw [c17, c18, c0, c1, c2, c3, c4, c6, c10, c12, c13, c7, c8, c9, c14, c11, c15, c47, c48, c49, c25, c41, c42, c43, c16, c27, c28, c29, c5, c19, c20, c50, c34, c35, c36, c37, c38, c39]; rfl)
            · skip
              have c47 : (udK s) = true := h2
              have c48 : (okI (udV s)) = true := (udV_ok h2).1
              have c49 : (bkK24 s) = false := by unfold bkK24; rw [(udV_ok h2).2]; exact not_beq _
              have c44 : (uuK s) = true := h3
              have c45 : (okU (uuV s)) = true := (uuV_ok h3).1
              have c46 : (bkK23 s) = false := by unfold bkK23; rw [(uuV_ok h3).2]; exact not_beq _
              have c40 : (unhexK s) = false := h4
              exact Tree.way_holds (back_b1yyync_way hR blk cap off bs hb n u (hi v) (lo v) (hi w) (lo w) s) (by rw [c17, c18, c0, c1, c2, c3, c4, c6, c10, c12, c13, c7, c8, c9, c14, c11, c15, c47, c48, c49, c44, c45, c46, c41, c42, c43, c16, c40, c5, c19, c20, c50, c34, c35, c36, c37, c38, c39]; rfl)
            · skip
              have c47 : (udK s) = true := h2
              have c48 : (okI (udV s)) = true := (udV_ok h2).1
              have c49 : (bkK24 s) = false := by unfold bkK24; rw [(udV_ok h2).2]; exact not_beq _
              have c44 : (uuK s) = true := h3
              have c45 : (okU (uuV s)) = true := (uuV_ok h3).1
              have c46 : (bkK23 s) = false := by unfold bkK23; rw [(uuV_ok h3).2]; exact not_beq _
              have c27 : (unhexK s) = true := h4
              have c28 : (bkK19 s) = true := by unfold bkK19; exact unhex_ok s hs1
              have c29 : (bkK20 s) = false := by unfold bkK20; rw [hex_back h4]; exact not_beq _
              exact Tree.way_holds (back_b1yyyyc_way hR blk cap off bs hb n u (hi v) (lo v) (hi w) (lo w) s) (by rw [c17, c18, c0, c1, c2, c3, c4, c6, c10, c12, c13, c7, c8, c9, c14, c11, c15, c47, c48, c49, c44, c45, c46, c41, c42, c43, c16, c27, c28, c29, c5, c19, c20, c50, c34, c35, c36, c37, c38, c39]; rfl)
    · skip
      have c19 : (decide ((hi v) ≥ 0)) = true := decide_eq_true hv
      have c51 : (decide ((hi w) ≥ 0)) = false := decide_eq_false hw
      by_cases hz : s.size = 0
      · obtain ⟨h2, h3, h1, h4⟩ := empty_k hz
        have c24 : (udK s) = false := h2
        have c25 : (uuK s) = false := h3
        have c26 : (uwK s) = false := h1
        have c27 : (unhexK s) = true := h4
        have c28 : (bkK19 s) = true := by unfold bkK19; exact unhex_ok s hs1
        have c29 : (bkK20 s) = false := by unfold bkK20; rw [hex_back h4]; exact not_beq _
        have c30 : (bkK11 s) = true := by unfold bkK11; exact decide_eq_true hz
        have c31 : (bkK25 s) = true := by unfold bkK25; exact empty_eq hz
        have c32 : (bkK14 s) = true := by unfold bkK14; exact empty_eq2 hz
        have c33 : (bkK26 s) = true := by unfold bkK26; exact count_zero s hs1
        exact Tree.way_holds (back_b0nnnyb_way hR blk cap off bs hb n u (hi v) (lo v) (hi w) (lo w) s) (by rw [c17, c18, c0, c1, c2, c3, c4, c6, c10, c12, c13, c7, c8, c9, c14, c11, c15, c24, c25, c26, c16, c27, c28, c29, c5, c19, c51, c30, c31, c32, c33]; rfl)
      · skip
        have c34 : (bkK11 s) = false := by unfold bkK11; exact decide_eq_false hz
        have c35 : (bkK12 s) = true := by unfold bkK12; exact join_ok s hs1
        have c36 : (bkK13 s) = true := by unfold bkK13; exact join_eq s
        have c37 : (bkK14 s) = false := by unfold bkK14; exact nonempty_eq hz
        have c38 : (bkK15 s) = false := by unfold bkK15; exact fields_pos s
        have c39 : (bkK16 s) = true := by unfold bkK16; exact count_ok s hs1
        cases h1 : uwK s
        · obtain ⟨h2, h3⟩ := no_uw h1
          have c24 : (udK s) = false := h2
          have c25 : (uuK s) = false := h3
          have c26 : (uwK s) = false := h1
          cases h4 : unhexK s
          · skip
            have c40 : (unhexK s) = false := h4
            exact Tree.way_holds (back_b1nnnnb_way hR blk cap off bs hb n u (hi v) (lo v) (hi w) (lo w) s) (by rw [c17, c18, c0, c1, c2, c3, c4, c6, c10, c12, c13, c7, c8, c9, c14, c11, c15, c24, c25, c26, c16, c40, c5, c19, c51, c34, c35, c36, c37, c38, c39]; rfl)
          · skip
            have c27 : (unhexK s) = true := h4
            have c28 : (bkK19 s) = true := by unfold bkK19; exact unhex_ok s hs1
            have c29 : (bkK20 s) = false := by unfold bkK20; rw [hex_back h4]; exact not_beq _
            exact Tree.way_holds (back_b1nnnyb_way hR blk cap off bs hb n u (hi v) (lo v) (hi w) (lo w) s) (by rw [c17, c18, c0, c1, c2, c3, c4, c6, c10, c12, c13, c7, c8, c9, c14, c11, c15, c24, c25, c26, c16, c27, c28, c29, c5, c19, c51, c34, c35, c36, c37, c38, c39]; rfl)
        · skip
          have c41 : (uwK s) = true := h1
          have c42 : (bkK21 s) = true := by unfold bkK21; exact dw_ok (uwV_in s)
          have c43 : (bkK22 s) = false := by unfold bkK22; rw [W2_hilo, uwV_ok h1]; exact not_beq _
          cases h2 : udK s <;> cases h3 : uuK s <;> cases h4 : unhexK s
          · skip
            have c24 : (udK s) = false := h2
            have c25 : (uuK s) = false := h3
            have c40 : (unhexK s) = false := h4
            exact Tree.way_holds (back_b1nnynb_way hR blk cap off bs hb n u (hi v) (lo v) (hi w) (lo w) s) (by rw [c17, c18, c0, c1, c2, c3, c4, c6, c10, c12, c13, c7, c8, c9, c14, c11, c15, c24, c25, c41, c42, c43, c16, c40, c5, c19, c51, c34, c35, c36, c37, c38, c39]; rfl)
          · skip
            have c24 : (udK s) = false := h2
            have c25 : (uuK s) = false := h3
            have c27 : (unhexK s) = true := h4
            have c28 : (bkK19 s) = true := by unfold bkK19; exact unhex_ok s hs1
            have c29 : (bkK20 s) = false := by unfold bkK20; rw [hex_back h4]; exact not_beq _
            exact Tree.way_holds (back_b1nnyyb_way hR blk cap off bs hb n u (hi v) (lo v) (hi w) (lo w) s) (by rw [c17, c18, c0, c1, c2, c3, c4, c6, c10, c12, c13, c7, c8, c9, c14, c11, c15, c24, c25, c41, c42, c43, c16, c27, c28, c29, c5, c19, c51, c34, c35, c36, c37, c38, c39]; rfl)
          · skip
            have c24 : (udK s) = false := h2
            have c44 : (uuK s) = true := h3
            have c45 : (okU (uuV s)) = true := (uuV_ok h3).1
            have c46 : (bkK23 s) = false := by unfold bkK23; rw [(uuV_ok h3).2]; exact not_beq _
            have c40 : (unhexK s) = false := h4
            exact Tree.way_holds (back_b1nyynb_way hR blk cap off bs hb n u (hi v) (lo v) (hi w) (lo w) s) (by rw [c17, c18, c0, c1, c2, c3, c4, c6, c10, c12, c13, c7, c8, c9, c14, c11, c15, c24, c44, c45, c46, c41, c42, c43, c16, c40, c5, c19, c51, c34, c35, c36, c37, c38, c39]; rfl)
          · skip
            have c24 : (udK s) = false := h2
            have c44 : (uuK s) = true := h3
            have c45 : (okU (uuV s)) = true := (uuV_ok h3).1
            have c46 : (bkK23 s) = false := by unfold bkK23; rw [(uuV_ok h3).2]; exact not_beq _
            have c27 : (unhexK s) = true := h4
            have c28 : (bkK19 s) = true := by unfold bkK19; exact unhex_ok s hs1
            have c29 : (bkK20 s) = false := by unfold bkK20; rw [hex_back h4]; exact not_beq _
            exact Tree.way_holds (back_b1nyyyb_way hR blk cap off bs hb n u (hi v) (lo v) (hi w) (lo w) s) (by rw [c17, c18, c0, c1, c2, c3, c4, c6, c10, c12, c13, c7, c8, c9, c14, c11, c15, c24, c44, c45, c46, c41, c42, c43, c16, c27, c28, c29, c5, c19, c51, c34, c35, c36, c37, c38, c39]; rfl)
          · skip
            have c47 : (udK s) = true := h2
            have c48 : (okI (udV s)) = true := (udV_ok h2).1
            have c49 : (bkK24 s) = false := by unfold bkK24; rw [(udV_ok h2).2]; exact not_beq _
            have c25 : (uuK s) = false := h3
            have c40 : (unhexK s) = false := h4
            exact Tree.way_holds (back_b1ynynb_way hR blk cap off bs hb n u (hi v) (lo v) (hi w) (lo w) s) (by rw [c17, c18, c0, c1, c2, c3, c4, c6, c10, c12, c13, c7, c8, c9, c14, c11, c15, c47, c48, c49, c25, c41, c42, c43, c16, c40, c5, c19, c51, c34, c35, c36, c37, c38, c39]; rfl)
          · skip
            have c47 : (udK s) = true := h2
            have c48 : (okI (udV s)) = true := (udV_ok h2).1
            have c49 : (bkK24 s) = false := by unfold bkK24; rw [(udV_ok h2).2]; exact not_beq _
            have c25 : (uuK s) = false := h3
            have c27 : (unhexK s) = true := h4
            have c28 : (bkK19 s) = true := by unfold bkK19; exact unhex_ok s hs1
            have c29 : (bkK20 s) = false := by unfold bkK20; rw [hex_back h4]; exact not_beq _
            exact Tree.way_holds (back_b1ynyyb_way hR blk cap off bs hb n u (hi v) (lo v) (hi w) (lo w) s) (by rw [c17, c18, c0, c1, c2, c3, c4, c6, c10, c12, c13, c7, c8, c9, c14, c11, c15, c47, c48, c49, c25, c41, c42, c43, c16, c27, c28, c29, c5, c19, c51, c34, c35, c36, c37, c38, c39]; rfl)
          · skip
            have c47 : (udK s) = true := h2
            have c48 : (okI (udV s)) = true := (udV_ok h2).1
            have c49 : (bkK24 s) = false := by unfold bkK24; rw [(udV_ok h2).2]; exact not_beq _
            have c44 : (uuK s) = true := h3
            have c45 : (okU (uuV s)) = true := (uuV_ok h3).1
            have c46 : (bkK23 s) = false := by unfold bkK23; rw [(uuV_ok h3).2]; exact not_beq _
            have c40 : (unhexK s) = false := h4
            exact Tree.way_holds (back_b1yyynb_way hR blk cap off bs hb n u (hi v) (lo v) (hi w) (lo w) s) (by rw [c17, c18, c0, c1, c2, c3, c4, c6, c10, c12, c13, c7, c8, c9, c14, c11, c15, c47, c48, c49, c44, c45, c46, c41, c42, c43, c16, c40, c5, c19, c51, c34, c35, c36, c37, c38, c39]; rfl)
          · skip
            have c47 : (udK s) = true := h2
            have c48 : (okI (udV s)) = true := (udV_ok h2).1
            have c49 : (bkK24 s) = false := by unfold bkK24; rw [(udV_ok h2).2]; exact not_beq _
            have c44 : (uuK s) = true := h3
            have c45 : (okU (uuV s)) = true := (uuV_ok h3).1
            have c46 : (bkK23 s) = false := by unfold bkK23; rw [(uuV_ok h3).2]; exact not_beq _
            have c27 : (unhexK s) = true := h4
            have c28 : (bkK19 s) = true := by unfold bkK19; exact unhex_ok s hs1
            have c29 : (bkK20 s) = false := by unfold bkK20; rw [hex_back h4]; exact not_beq _
            exact Tree.way_holds (back_b1yyyyb_way hR blk cap off bs hb n u (hi v) (lo v) (hi w) (lo w) s) (by rw [c17, c18, c0, c1, c2, c3, c4, c6, c10, c12, c13, c7, c8, c9, c14, c11, c15, c47, c48, c49, c44, c45, c46, c41, c42, c43, c16, c27, c28, c29, c5, c19, c51, c34, c35, c36, c37, c38, c39]; rfl)
  · skip
    have c52 : (decide ((hi v) ≥ 0)) = false := decide_eq_false hv
    by_cases hz : s.size = 0
    · obtain ⟨h2, h3, h1, h4⟩ := empty_k hz
      have c24 : (udK s) = false := h2
      have c25 : (uuK s) = false := h3
      have c26 : (uwK s) = false := h1
      have c27 : (unhexK s) = true := h4
      have c28 : (bkK19 s) = true := by unfold bkK19; exact unhex_ok s hs1
      have c29 : (bkK20 s) = false := by unfold bkK20; rw [hex_back h4]; exact not_beq _
      have c30 : (bkK11 s) = true := by unfold bkK11; exact decide_eq_true hz
      have c31 : (bkK25 s) = true := by unfold bkK25; exact empty_eq hz
      have c32 : (bkK14 s) = true := by unfold bkK14; exact empty_eq2 hz
      have c33 : (bkK26 s) = true := by unfold bkK26; exact count_zero s hs1
      exact Tree.way_holds (back_b0nnnya_way hR blk cap off bs hb n u (hi v) (lo v) (hi w) (lo w) s) (by rw [c17, c18, c0, c1, c2, c3, c4, c6, c10, c12, c13, c7, c8, c9, c14, c11, c15, c24, c25, c26, c16, c27, c28, c29, c5, c52, c30, c31, c32, c33]; rfl)
    · skip
      have c34 : (bkK11 s) = false := by unfold bkK11; exact decide_eq_false hz
      have c35 : (bkK12 s) = true := by unfold bkK12; exact join_ok s hs1
      have c36 : (bkK13 s) = true := by unfold bkK13; exact join_eq s
      have c37 : (bkK14 s) = false := by unfold bkK14; exact nonempty_eq hz
      have c38 : (bkK15 s) = false := by unfold bkK15; exact fields_pos s
      have c39 : (bkK16 s) = true := by unfold bkK16; exact count_ok s hs1
      cases h1 : uwK s
      · obtain ⟨h2, h3⟩ := no_uw h1
        have c24 : (udK s) = false := h2
        have c25 : (uuK s) = false := h3
        have c26 : (uwK s) = false := h1
        cases h4 : unhexK s
        · skip
          have c40 : (unhexK s) = false := h4
          exact Tree.way_holds (back_b1nnnna_way hR blk cap off bs hb n u (hi v) (lo v) (hi w) (lo w) s) (by rw [c17, c18, c0, c1, c2, c3, c4, c6, c10, c12, c13, c7, c8, c9, c14, c11, c15, c24, c25, c26, c16, c40, c5, c52, c34, c35, c36, c37, c38, c39]; rfl)
        · skip
          have c27 : (unhexK s) = true := h4
          have c28 : (bkK19 s) = true := by unfold bkK19; exact unhex_ok s hs1
          have c29 : (bkK20 s) = false := by unfold bkK20; rw [hex_back h4]; exact not_beq _
          exact Tree.way_holds (back_b1nnnya_way hR blk cap off bs hb n u (hi v) (lo v) (hi w) (lo w) s) (by rw [c17, c18, c0, c1, c2, c3, c4, c6, c10, c12, c13, c7, c8, c9, c14, c11, c15, c24, c25, c26, c16, c27, c28, c29, c5, c52, c34, c35, c36, c37, c38, c39]; rfl)
      · skip
        have c41 : (uwK s) = true := h1
        have c42 : (bkK21 s) = true := by unfold bkK21; exact dw_ok (uwV_in s)
        have c43 : (bkK22 s) = false := by unfold bkK22; rw [W2_hilo, uwV_ok h1]; exact not_beq _
        cases h2 : udK s <;> cases h3 : uuK s <;> cases h4 : unhexK s
        · skip
          have c24 : (udK s) = false := h2
          have c25 : (uuK s) = false := h3
          have c40 : (unhexK s) = false := h4
          exact Tree.way_holds (back_b1nnyna_way hR blk cap off bs hb n u (hi v) (lo v) (hi w) (lo w) s) (by rw [c17, c18, c0, c1, c2, c3, c4, c6, c10, c12, c13, c7, c8, c9, c14, c11, c15, c24, c25, c41, c42, c43, c16, c40, c5, c52, c34, c35, c36, c37, c38, c39]; rfl)
        · skip
          have c24 : (udK s) = false := h2
          have c25 : (uuK s) = false := h3
          have c27 : (unhexK s) = true := h4
          have c28 : (bkK19 s) = true := by unfold bkK19; exact unhex_ok s hs1
          have c29 : (bkK20 s) = false := by unfold bkK20; rw [hex_back h4]; exact not_beq _
          exact Tree.way_holds (back_b1nnyya_way hR blk cap off bs hb n u (hi v) (lo v) (hi w) (lo w) s) (by rw [c17, c18, c0, c1, c2, c3, c4, c6, c10, c12, c13, c7, c8, c9, c14, c11, c15, c24, c25, c41, c42, c43, c16, c27, c28, c29, c5, c52, c34, c35, c36, c37, c38, c39]; rfl)
        · skip
          have c24 : (udK s) = false := h2
          have c44 : (uuK s) = true := h3
          have c45 : (okU (uuV s)) = true := (uuV_ok h3).1
          have c46 : (bkK23 s) = false := by unfold bkK23; rw [(uuV_ok h3).2]; exact not_beq _
          have c40 : (unhexK s) = false := h4
          exact Tree.way_holds (back_b1nyyna_way hR blk cap off bs hb n u (hi v) (lo v) (hi w) (lo w) s) (by rw [c17, c18, c0, c1, c2, c3, c4, c6, c10, c12, c13, c7, c8, c9, c14, c11, c15, c24, c44, c45, c46, c41, c42, c43, c16, c40, c5, c52, c34, c35, c36, c37, c38, c39]; rfl)
        · skip
          have c24 : (udK s) = false := h2
          have c44 : (uuK s) = true := h3
          have c45 : (okU (uuV s)) = true := (uuV_ok h3).1
          have c46 : (bkK23 s) = false := by unfold bkK23; rw [(uuV_ok h3).2]; exact not_beq _
          have c27 : (unhexK s) = true := h4
          have c28 : (bkK19 s) = true := by unfold bkK19; exact unhex_ok s hs1
          have c29 : (bkK20 s) = false := by unfold bkK20; rw [hex_back h4]; exact not_beq _
          exact Tree.way_holds (back_b1nyyya_way hR blk cap off bs hb n u (hi v) (lo v) (hi w) (lo w) s) (by rw [c17, c18, c0, c1, c2, c3, c4, c6, c10, c12, c13, c7, c8, c9, c14, c11, c15, c24, c44, c45, c46, c41, c42, c43, c16, c27, c28, c29, c5, c52, c34, c35, c36, c37, c38, c39]; rfl)
        · skip
          have c47 : (udK s) = true := h2
          have c48 : (okI (udV s)) = true := (udV_ok h2).1
          have c49 : (bkK24 s) = false := by unfold bkK24; rw [(udV_ok h2).2]; exact not_beq _
          have c25 : (uuK s) = false := h3
          have c40 : (unhexK s) = false := h4
          exact Tree.way_holds (back_b1ynyna_way hR blk cap off bs hb n u (hi v) (lo v) (hi w) (lo w) s) (by rw [c17, c18, c0, c1, c2, c3, c4, c6, c10, c12, c13, c7, c8, c9, c14, c11, c15, c47, c48, c49, c25, c41, c42, c43, c16, c40, c5, c52, c34, c35, c36, c37, c38, c39]; rfl)
        · skip
          have c47 : (udK s) = true := h2
          have c48 : (okI (udV s)) = true := (udV_ok h2).1
          have c49 : (bkK24 s) = false := by unfold bkK24; rw [(udV_ok h2).2]; exact not_beq _
          have c25 : (uuK s) = false := h3
          have c27 : (unhexK s) = true := h4
          have c28 : (bkK19 s) = true := by unfold bkK19; exact unhex_ok s hs1
          have c29 : (bkK20 s) = false := by unfold bkK20; rw [hex_back h4]; exact not_beq _
          exact Tree.way_holds (back_b1ynyya_way hR blk cap off bs hb n u (hi v) (lo v) (hi w) (lo w) s) (by rw [c17, c18, c0, c1, c2, c3, c4, c6, c10, c12, c13, c7, c8, c9, c14, c11, c15, c47, c48, c49, c25, c41, c42, c43, c16, c27, c28, c29, c5, c52, c34, c35, c36, c37, c38, c39]; rfl)
        · skip
          have c47 : (udK s) = true := h2
          have c48 : (okI (udV s)) = true := (udV_ok h2).1
          have c49 : (bkK24 s) = false := by unfold bkK24; rw [(udV_ok h2).2]; exact not_beq _
          have c44 : (uuK s) = true := h3
          have c45 : (okU (uuV s)) = true := (uuV_ok h3).1
          have c46 : (bkK23 s) = false := by unfold bkK23; rw [(uuV_ok h3).2]; exact not_beq _
          have c40 : (unhexK s) = false := h4
          exact Tree.way_holds (back_b1yyyna_way hR blk cap off bs hb n u (hi v) (lo v) (hi w) (lo w) s) (by rw [c17, c18, c0, c1, c2, c3, c4, c6, c10, c12, c13, c7, c8, c9, c14, c11, c15, c47, c48, c49, c44, c45, c46, c41, c42, c43, c16, c40, c5, c52, c34, c35, c36, c37, c38, c39]; rfl)
        · skip
          have c47 : (udK s) = true := h2
          have c48 : (okI (udV s)) = true := (udV_ok h2).1
          have c49 : (bkK24 s) = false := by unfold bkK24; rw [(udV_ok h2).2]; exact not_beq _
          have c44 : (uuK s) = true := h3
          have c45 : (okU (uuV s)) = true := (uuV_ok h3).1
          have c46 : (bkK23 s) = false := by unfold bkK23; rw [(uuV_ok h3).2]; exact not_beq _
          have c27 : (unhexK s) = true := h4
          have c28 : (bkK19 s) = true := by unfold bkK19; exact unhex_ok s hs1
          have c29 : (bkK20 s) = false := by unfold bkK20; rw [hex_back h4]; exact not_beq _
          exact Tree.way_holds (back_b1yyyya_way hR blk cap off bs hb n u (hi v) (lo v) (hi w) (lo w) s) (by rw [c17, c18, c0, c1, c2, c3, c4, c6, c10, c12, c13, c7, c8, c9, c14, c11, c15, c47, c48, c49, c44, c45, c46, c41, c42, c43, c16, c27, c28, c29, c5, c52, c34, c35, c36, c37, c38, c39]; rfl)
set_option maxHeartbeats 8000000 in
theorem backT_none (hR : Rt) (n u v w : Int) (hn0 : -9223372036854775808 ≤ n) (hn1 : n ≤ 9223372036854775807) (hu0 : 0 ≤ u) (hu1 : u ≤ 18446744073709551615) (iv : InR v) (iw : InR w) (s : ByteArray) :
    ((evN hR).call [] 6 #[.int .i64 n, .int .u64 u, .agg #[.int .i64 (hi v), .int .u64 (lo v)], .agg #[.int .i64 (hi w), .int .u64 (lo w)], .slice none 0 0, .string s] [] B0).holds fun r => r.v = .bool true := by
  rcases Nat.lt_or_ge 1000 s.size with hs1 | hs1
  · skip
    exact Tree.way_holds (back_n_ls_way hR n u (hi v) (lo v) (hi w) (lo w) s) (by unfold bkK0; rw [int_gt hs1]; rfl)
  have c0 : (okI n) = true := okI_iff.2 ⟨hn0, hn1⟩
  have c1 : (udK (tx n)) = true := by rw [udK_tx hn0 hn1]
  have c2 : (okU u) = true := okU_iff.2 ⟨hu0, hu1⟩
  have c3 : (uuK (tx u)) = true := by rw [uuK_tx hu0 hu1]
  have c4 : (bkK2 (hi w) (lo w)) = true := by unfold bkK2; exact dw_ok iw
  have c5 : (bkK10 (hi v) (lo v)) = true := by unfold bkK10; exact dw_ok iv
  have c6 : (uwK (tx (W2 (hi w) (lo w)))) = true := by rw [W2_hilo, uwK_tx iw]
  have c7 : (udV (tx n) != n) = false := by rw [udV_tx hn0 hn1]; exact bne_self_eq_false n
  have c8 : (uuV (tx u) != u) = false := by rw [uuV_tx hu0 hu1]; exact bne_self_eq_false u
  have c9 : (bkK5 (hi w) (lo w)) = false := by unfold bkK5; rw [W2_hilo, uwV_tx iw, beq_self_eq_true, beq_self_eq_true]; rfl
  have c10 : (bkK9 s) = true := by unfold bkK9; exact nat_le hs1
  have c11 : (bkK0 s) = false := by unfold bkK0; exact int_le hs1
  by_cases hv : hi v ≥ 0
  · by_cases hw : hi w ≥ 0
    · by_cases hl : (((tx (W2 (hi v) (lo v))).size : Nat) : Int) < (((tx (W2 (hi w) (lo w))).size : Nat) : Int)
      · skip
        have c12 : (decide ((hi v) ≥ 0)) = true := decide_eq_true hv
        have c13 : (decide ((hi w) ≥ 0)) = true := decide_eq_true hw
        have c14 : (bkK17 (hi v) (lo v) (hi w) (lo w)) = true := by unfold bkK17; exact decide_eq_true hl
        have c15 : (okW (hi v) (lo v) && okW (hi w) (lo w)) = true := by rw [okW_hilo iv, okW_hilo iw]; rfl
        have c16 : (bkK18 (hi v) (lo v) (hi w) (lo w)) = false := by unfold bkK18; exact cmp_less iv iw hv hw hl
        by_cases hz : s.size = 0
        · obtain ⟨h2, h3, h1, h4⟩ := empty_k hz
          have c17 : (udK s) = false := h2
          have c18 : (uuK s) = false := h3
          have c19 : (uwK s) = false := h1
          have c20 : (unhexK s) = true := h4
          have c21 : (bkK19 s) = true := by unfold bkK19; exact unhex_ok s hs1
          have c22 : (bkK20 s) = false := by unfold bkK20; rw [hex_back h4]; exact not_beq _
          have c23 : (bkK11 s) = true := by unfold bkK11; exact decide_eq_true hz
          have c24 : (bkK25 s) = true := by unfold bkK25; exact empty_eq hz
          have c25 : (bkK14 s) = true := by unfold bkK14; exact empty_eq2 hz
          have c26 : (bkK26 s) = true := by unfold bkK26; exact count_zero s hs1
          exact Tree.way_holds (back_n0nnnyd_way hR n u (hi v) (lo v) (hi w) (lo w) s) (by rw [c11, c0, c1, c2, c3, c4, c6, c7, c8, c9, c17, c18, c19, c10, c20, c21, c22, c5, c12, c13, c14, c15, c16, c23, c24, c25, c26]; rfl)
        · skip
          have c27 : (bkK11 s) = false := by unfold bkK11; exact decide_eq_false hz
          have c28 : (bkK12 s) = true := by unfold bkK12; exact join_ok s hs1
          have c29 : (bkK13 s) = true := by unfold bkK13; exact join_eq s
          have c30 : (bkK14 s) = false := by unfold bkK14; exact nonempty_eq hz
          have c31 : (bkK15 s) = false := by unfold bkK15; exact fields_pos s
          have c32 : (bkK16 s) = true := by unfold bkK16; exact count_ok s hs1
          cases h1 : uwK s
          · obtain ⟨h2, h3⟩ := no_uw h1
            have c17 : (udK s) = false := h2
            have c18 : (uuK s) = false := h3
            have c19 : (uwK s) = false := h1
            cases h4 : unhexK s
            · skip
              have c33 : (unhexK s) = false := h4
              exact Tree.way_holds (back_n1nnnnd_way hR n u (hi v) (lo v) (hi w) (lo w) s) (by rw [c11, c0, c1, c2, c3, c4, c6, c7, c8, c9, c17, c18, c19, c10, c33, c5, c12, c13, c14, c15, c16, c27, c28, c29, c30, c31, c32]; rfl)
            · skip
              have c20 : (unhexK s) = true := h4
              have c21 : (bkK19 s) = true := by unfold bkK19; exact unhex_ok s hs1
              have c22 : (bkK20 s) = false := by unfold bkK20; rw [hex_back h4]; exact not_beq _
              exact Tree.way_holds (back_n1nnnyd_way hR n u (hi v) (lo v) (hi w) (lo w) s) (by rw [c11, c0, c1, c2, c3, c4, c6, c7, c8, c9, c17, c18, c19, c10, c20, c21, c22, c5, c12, c13, c14, c15, c16, c27, c28, c29, c30, c31, c32]; rfl)
          · skip
            have c34 : (uwK s) = true := h1
            have c35 : (bkK21 s) = true := by unfold bkK21; exact dw_ok (uwV_in s)
            have c36 : (bkK22 s) = false := by unfold bkK22; rw [W2_hilo, uwV_ok h1]; exact not_beq _
            cases h2 : udK s <;> cases h3 : uuK s <;> cases h4 : unhexK s
            · skip
              have c17 : (udK s) = false := h2
              have c18 : (uuK s) = false := h3
              have c33 : (unhexK s) = false := h4
              exact Tree.way_holds (back_n1nnynd_way hR n u (hi v) (lo v) (hi w) (lo w) s) (by rw [c11, c0, c1, c2, c3, c4, c6, c7, c8, c9, c17, c18, c34, c35, c36, c10, c33, c5, c12, c13, c14, c15, c16, c27, c28, c29, c30, c31, c32]; rfl)
            · skip
              have c17 : (udK s) = false := h2
              have c18 : (uuK s) = false := h3
              have c20 : (unhexK s) = true := h4
              have c21 : (bkK19 s) = true := by unfold bkK19; exact unhex_ok s hs1
              have c22 : (bkK20 s) = false := by unfold bkK20; rw [hex_back h4]; exact not_beq _
              exact Tree.way_holds (back_n1nnyyd_way hR n u (hi v) (lo v) (hi w) (lo w) s) (by rw [c11, c0, c1, c2, c3, c4, c6, c7, c8, c9, c17, c18, c34, c35, c36, c10, c20, c21, c22, c5, c12, c13, c14, c15, c16, c27, c28, c29, c30, c31, c32]; rfl)
            · skip
              have c17 : (udK s) = false := h2
              have c37 : (uuK s) = true := h3
              have c38 : (okU (uuV s)) = true := (uuV_ok h3).1
              have c39 : (bkK23 s) = false := by unfold bkK23; rw [(uuV_ok h3).2]; exact not_beq _
              have c33 : (unhexK s) = false := h4
              exact Tree.way_holds (back_n1nyynd_way hR n u (hi v) (lo v) (hi w) (lo w) s) (by rw [c11, c0, c1, c2, c3, c4, c6, c7, c8, c9, c17, c37, c38, c39, c34, c35, c36, c10, c33, c5, c12, c13, c14, c15, c16, c27, c28, c29, c30, c31, c32]; rfl)
            · skip
              have c17 : (udK s) = false := h2
              have c37 : (uuK s) = true := h3
              have c38 : (okU (uuV s)) = true := (uuV_ok h3).1
              have c39 : (bkK23 s) = false := by unfold bkK23; rw [(uuV_ok h3).2]; exact not_beq _
              have c20 : (unhexK s) = true := h4
              have c21 : (bkK19 s) = true := by unfold bkK19; exact unhex_ok s hs1
              have c22 : (bkK20 s) = false := by unfold bkK20; rw [hex_back h4]; exact not_beq _
              exact Tree.way_holds (back_n1nyyyd_way hR n u (hi v) (lo v) (hi w) (lo w) s) (by rw [c11, c0, c1, c2, c3, c4, c6, c7, c8, c9, c17, c37, c38, c39, c34, c35, c36, c10, c20, c21, c22, c5, c12, c13, c14, c15, c16, c27, c28, c29, c30, c31, c32]; rfl)
            · skip
              have c40 : (udK s) = true := h2
              have c41 : (okI (udV s)) = true := (udV_ok h2).1
              have c42 : (bkK24 s) = false := by unfold bkK24; rw [(udV_ok h2).2]; exact not_beq _
              have c18 : (uuK s) = false := h3
              have c33 : (unhexK s) = false := h4
              exact Tree.way_holds (back_n1ynynd_way hR n u (hi v) (lo v) (hi w) (lo w) s) (by rw [c11, c0, c1, c2, c3, c4, c6, c7, c8, c9, c40, c41, c42, c18, c34, c35, c36, c10, c33, c5, c12, c13, c14, c15, c16, c27, c28, c29, c30, c31, c32]; rfl)
            · skip
              have c40 : (udK s) = true := h2
              have c41 : (okI (udV s)) = true := (udV_ok h2).1
              have c42 : (bkK24 s) = false := by unfold bkK24; rw [(udV_ok h2).2]; exact not_beq _
              have c18 : (uuK s) = false := h3
              have c20 : (unhexK s) = true := h4
              have c21 : (bkK19 s) = true := by unfold bkK19; exact unhex_ok s hs1
              have c22 : (bkK20 s) = false := by unfold bkK20; rw [hex_back h4]; exact not_beq _
              exact Tree.way_holds (back_n1ynyyd_way hR n u (hi v) (lo v) (hi w) (lo w) s) (by rw [c11, c0, c1, c2, c3, c4, c6, c7, c8, c9, c40, c41, c42, c18, c34, c35, c36, c10, c20, c21, c22, c5, c12, c13, c14, c15, c16, c27, c28, c29, c30, c31, c32]; rfl)
            · skip
              have c40 : (udK s) = true := h2
              have c41 : (okI (udV s)) = true := (udV_ok h2).1
              have c42 : (bkK24 s) = false := by unfold bkK24; rw [(udV_ok h2).2]; exact not_beq _
              have c37 : (uuK s) = true := h3
              have c38 : (okU (uuV s)) = true := (uuV_ok h3).1
              have c39 : (bkK23 s) = false := by unfold bkK23; rw [(uuV_ok h3).2]; exact not_beq _
              have c33 : (unhexK s) = false := h4
              exact Tree.way_holds (back_n1yyynd_way hR n u (hi v) (lo v) (hi w) (lo w) s) (by rw [c11, c0, c1, c2, c3, c4, c6, c7, c8, c9, c40, c41, c42, c37, c38, c39, c34, c35, c36, c10, c33, c5, c12, c13, c14, c15, c16, c27, c28, c29, c30, c31, c32]; rfl)
            · skip
              have c40 : (udK s) = true := h2
              have c41 : (okI (udV s)) = true := (udV_ok h2).1
              have c42 : (bkK24 s) = false := by unfold bkK24; rw [(udV_ok h2).2]; exact not_beq _
              have c37 : (uuK s) = true := h3
              have c38 : (okU (uuV s)) = true := (uuV_ok h3).1
              have c39 : (bkK23 s) = false := by unfold bkK23; rw [(uuV_ok h3).2]; exact not_beq _
              have c20 : (unhexK s) = true := h4
              have c21 : (bkK19 s) = true := by unfold bkK19; exact unhex_ok s hs1
              have c22 : (bkK20 s) = false := by unfold bkK20; rw [hex_back h4]; exact not_beq _
              exact Tree.way_holds (back_n1yyyyd_way hR n u (hi v) (lo v) (hi w) (lo w) s) (by rw [c11, c0, c1, c2, c3, c4, c6, c7, c8, c9, c40, c41, c42, c37, c38, c39, c34, c35, c36, c10, c20, c21, c22, c5, c12, c13, c14, c15, c16, c27, c28, c29, c30, c31, c32]; rfl)
      · skip
        have c12 : (decide ((hi v) ≥ 0)) = true := decide_eq_true hv
        have c13 : (decide ((hi w) ≥ 0)) = true := decide_eq_true hw
        have c43 : (bkK17 (hi v) (lo v) (hi w) (lo w)) = false := by unfold bkK17; exact decide_eq_false hl
        by_cases hz : s.size = 0
        · obtain ⟨h2, h3, h1, h4⟩ := empty_k hz
          have c17 : (udK s) = false := h2
          have c18 : (uuK s) = false := h3
          have c19 : (uwK s) = false := h1
          have c20 : (unhexK s) = true := h4
          have c21 : (bkK19 s) = true := by unfold bkK19; exact unhex_ok s hs1
          have c22 : (bkK20 s) = false := by unfold bkK20; rw [hex_back h4]; exact not_beq _
          have c23 : (bkK11 s) = true := by unfold bkK11; exact decide_eq_true hz
          have c24 : (bkK25 s) = true := by unfold bkK25; exact empty_eq hz
          have c25 : (bkK14 s) = true := by unfold bkK14; exact empty_eq2 hz
          have c26 : (bkK26 s) = true := by unfold bkK26; exact count_zero s hs1
          exact Tree.way_holds (back_n0nnnyc_way hR n u (hi v) (lo v) (hi w) (lo w) s) (by rw [c11, c0, c1, c2, c3, c4, c6, c7, c8, c9, c17, c18, c19, c10, c20, c21, c22, c5, c12, c13, c43, c23, c24, c25, c26]; rfl)
        · skip
          have c27 : (bkK11 s) = false := by unfold bkK11; exact decide_eq_false hz
          have c28 : (bkK12 s) = true := by unfold bkK12; exact join_ok s hs1
          have c29 : (bkK13 s) = true := by unfold bkK13; exact join_eq s
          have c30 : (bkK14 s) = false := by unfold bkK14; exact nonempty_eq hz
          have c31 : (bkK15 s) = false := by unfold bkK15; exact fields_pos s
          have c32 : (bkK16 s) = true := by unfold bkK16; exact count_ok s hs1
          cases h1 : uwK s
          · obtain ⟨h2, h3⟩ := no_uw h1
            have c17 : (udK s) = false := h2
            have c18 : (uuK s) = false := h3
            have c19 : (uwK s) = false := h1
            cases h4 : unhexK s
            · skip
              have c33 : (unhexK s) = false := h4
              exact Tree.way_holds (back_n1nnnnc_way hR n u (hi v) (lo v) (hi w) (lo w) s) (by rw [c11, c0, c1, c2, c3, c4, c6, c7, c8, c9, c17, c18, c19, c10, c33, c5, c12, c13, c43, c27, c28, c29, c30, c31, c32]; rfl)
            · skip
              have c20 : (unhexK s) = true := h4
              have c21 : (bkK19 s) = true := by unfold bkK19; exact unhex_ok s hs1
              have c22 : (bkK20 s) = false := by unfold bkK20; rw [hex_back h4]; exact not_beq _
              exact Tree.way_holds (back_n1nnnyc_way hR n u (hi v) (lo v) (hi w) (lo w) s) (by rw [c11, c0, c1, c2, c3, c4, c6, c7, c8, c9, c17, c18, c19, c10, c20, c21, c22, c5, c12, c13, c43, c27, c28, c29, c30, c31, c32]; rfl)
          · skip
            have c34 : (uwK s) = true := h1
            have c35 : (bkK21 s) = true := by unfold bkK21; exact dw_ok (uwV_in s)
            have c36 : (bkK22 s) = false := by unfold bkK22; rw [W2_hilo, uwV_ok h1]; exact not_beq _
            cases h2 : udK s <;> cases h3 : uuK s <;> cases h4 : unhexK s
            · skip
              have c17 : (udK s) = false := h2
              have c18 : (uuK s) = false := h3
              have c33 : (unhexK s) = false := h4
              exact Tree.way_holds (back_n1nnync_way hR n u (hi v) (lo v) (hi w) (lo w) s) (by rw [c11, c0, c1, c2, c3, c4, c6, c7, c8, c9, c17, c18, c34, c35, c36, c10, c33, c5, c12, c13, c43, c27, c28, c29, c30, c31, c32]; rfl)
            · skip
              have c17 : (udK s) = false := h2
              have c18 : (uuK s) = false := h3
              have c20 : (unhexK s) = true := h4
              have c21 : (bkK19 s) = true := by unfold bkK19; exact unhex_ok s hs1
              have c22 : (bkK20 s) = false := by unfold bkK20; rw [hex_back h4]; exact not_beq _
              exact Tree.way_holds (back_n1nnyyc_way hR n u (hi v) (lo v) (hi w) (lo w) s) (by rw [c11, c0, c1, c2, c3, c4, c6, c7, c8, c9, c17, c18, c34, c35, c36, c10, c20, c21, c22, c5, c12, c13, c43, c27, c28, c29, c30, c31, c32]; rfl)
            · skip
              have c17 : (udK s) = false := h2
              have c37 : (uuK s) = true := h3
              have c38 : (okU (uuV s)) = true := (uuV_ok h3).1
              have c39 : (bkK23 s) = false := by unfold bkK23; rw [(uuV_ok h3).2]; exact not_beq _
              have c33 : (unhexK s) = false := h4
              exact Tree.way_holds (back_n1nyync_way hR n u (hi v) (lo v) (hi w) (lo w) s) (by rw [c11, c0, c1, c2, c3, c4, c6, c7, c8, c9, c17, c37, c38, c39, c34, c35, c36, c10, c33, c5, c12, c13, c43, c27, c28, c29, c30, c31, c32]; rfl)
            · skip
              have c17 : (udK s) = false := h2
              have c37 : (uuK s) = true := h3
              have c38 : (okU (uuV s)) = true := (uuV_ok h3).1
              have c39 : (bkK23 s) = false := by unfold bkK23; rw [(uuV_ok h3).2]; exact not_beq _
              have c20 : (unhexK s) = true := h4
              have c21 : (bkK19 s) = true := by unfold bkK19; exact unhex_ok s hs1
              have c22 : (bkK20 s) = false := by unfold bkK20; rw [hex_back h4]; exact not_beq _
              exact Tree.way_holds (back_n1nyyyc_way hR n u (hi v) (lo v) (hi w) (lo w) s) (by rw [c11, c0, c1, c2, c3, c4, c6, c7, c8, c9, c17, c37, c38, c39, c34, c35, c36, c10, c20, c21, c22, c5, c12, c13, c43, c27, c28, c29, c30, c31, c32]; rfl)
            · skip
              have c40 : (udK s) = true := h2
              have c41 : (okI (udV s)) = true := (udV_ok h2).1
              have c42 : (bkK24 s) = false := by unfold bkK24; rw [(udV_ok h2).2]; exact not_beq _
              have c18 : (uuK s) = false := h3
              have c33 : (unhexK s) = false := h4
              exact Tree.way_holds (back_n1ynync_way hR n u (hi v) (lo v) (hi w) (lo w) s) (by rw [c11, c0, c1, c2, c3, c4, c6, c7, c8, c9, c40, c41, c42, c18, c34, c35, c36, c10, c33, c5, c12, c13, c43, c27, c28, c29, c30, c31, c32]; rfl)
            · skip
              have c40 : (udK s) = true := h2
              have c41 : (okI (udV s)) = true := (udV_ok h2).1
              have c42 : (bkK24 s) = false := by unfold bkK24; rw [(udV_ok h2).2]; exact not_beq _
              have c18 : (uuK s) = false := h3
              have c20 : (unhexK s) = true := h4
              have c21 : (bkK19 s) = true := by unfold bkK19; exact unhex_ok s hs1
              have c22 : (bkK20 s) = false := by unfold bkK20; rw [hex_back h4]; exact not_beq _
              exact Tree.way_holds (back_n1ynyyc_way hR n u (hi v) (lo v) (hi w) (lo w) s) (by rw [c11, c0, c1, c2, c3, c4, c6, c7, c8, c9, c40, c41, c42, c18, c34, c35, c36, c10, c20, c21, c22, c5, c12, c13, c43, c27, c28, c29, c30, c31, c32]; rfl)
            · skip
              have c40 : (udK s) = true := h2
              have c41 : (okI (udV s)) = true := (udV_ok h2).1
              have c42 : (bkK24 s) = false := by unfold bkK24; rw [(udV_ok h2).2]; exact not_beq _
              have c37 : (uuK s) = true := h3
              have c38 : (okU (uuV s)) = true := (uuV_ok h3).1
              have c39 : (bkK23 s) = false := by unfold bkK23; rw [(uuV_ok h3).2]; exact not_beq _
              have c33 : (unhexK s) = false := h4
              exact Tree.way_holds (back_n1yyync_way hR n u (hi v) (lo v) (hi w) (lo w) s) (by rw [c11, c0, c1, c2, c3, c4, c6, c7, c8, c9, c40, c41, c42, c37, c38, c39, c34, c35, c36, c10, c33, c5, c12, c13, c43, c27, c28, c29, c30, c31, c32]; rfl)
            · skip
              have c40 : (udK s) = true := h2
              have c41 : (okI (udV s)) = true := (udV_ok h2).1
              have c42 : (bkK24 s) = false := by unfold bkK24; rw [(udV_ok h2).2]; exact not_beq _
              have c37 : (uuK s) = true := h3
              have c38 : (okU (uuV s)) = true := (uuV_ok h3).1
              have c39 : (bkK23 s) = false := by unfold bkK23; rw [(uuV_ok h3).2]; exact not_beq _
              have c20 : (unhexK s) = true := h4
              have c21 : (bkK19 s) = true := by unfold bkK19; exact unhex_ok s hs1
              have c22 : (bkK20 s) = false := by unfold bkK20; rw [hex_back h4]; exact not_beq _
              exact Tree.way_holds (back_n1yyyyc_way hR n u (hi v) (lo v) (hi w) (lo w) s) (by rw [c11, c0, c1, c2, c3, c4, c6, c7, c8, c9, c40, c41, c42, c37, c38, c39, c34, c35, c36, c10, c20, c21, c22, c5, c12, c13, c43, c27, c28, c29, c30, c31, c32]; rfl)
    · skip
      have c12 : (decide ((hi v) ≥ 0)) = true := decide_eq_true hv
      have c44 : (decide ((hi w) ≥ 0)) = false := decide_eq_false hw
      by_cases hz : s.size = 0
      · obtain ⟨h2, h3, h1, h4⟩ := empty_k hz
        have c17 : (udK s) = false := h2
        have c18 : (uuK s) = false := h3
        have c19 : (uwK s) = false := h1
        have c20 : (unhexK s) = true := h4
        have c21 : (bkK19 s) = true := by unfold bkK19; exact unhex_ok s hs1
        have c22 : (bkK20 s) = false := by unfold bkK20; rw [hex_back h4]; exact not_beq _
        have c23 : (bkK11 s) = true := by unfold bkK11; exact decide_eq_true hz
        have c24 : (bkK25 s) = true := by unfold bkK25; exact empty_eq hz
        have c25 : (bkK14 s) = true := by unfold bkK14; exact empty_eq2 hz
        have c26 : (bkK26 s) = true := by unfold bkK26; exact count_zero s hs1
        exact Tree.way_holds (back_n0nnnyb_way hR n u (hi v) (lo v) (hi w) (lo w) s) (by rw [c11, c0, c1, c2, c3, c4, c6, c7, c8, c9, c17, c18, c19, c10, c20, c21, c22, c5, c12, c44, c23, c24, c25, c26]; rfl)
      · skip
        have c27 : (bkK11 s) = false := by unfold bkK11; exact decide_eq_false hz
        have c28 : (bkK12 s) = true := by unfold bkK12; exact join_ok s hs1
        have c29 : (bkK13 s) = true := by unfold bkK13; exact join_eq s
        have c30 : (bkK14 s) = false := by unfold bkK14; exact nonempty_eq hz
        have c31 : (bkK15 s) = false := by unfold bkK15; exact fields_pos s
        have c32 : (bkK16 s) = true := by unfold bkK16; exact count_ok s hs1
        cases h1 : uwK s
        · obtain ⟨h2, h3⟩ := no_uw h1
          have c17 : (udK s) = false := h2
          have c18 : (uuK s) = false := h3
          have c19 : (uwK s) = false := h1
          cases h4 : unhexK s
          · skip
            have c33 : (unhexK s) = false := h4
            exact Tree.way_holds (back_n1nnnnb_way hR n u (hi v) (lo v) (hi w) (lo w) s) (by rw [c11, c0, c1, c2, c3, c4, c6, c7, c8, c9, c17, c18, c19, c10, c33, c5, c12, c44, c27, c28, c29, c30, c31, c32]; rfl)
          · skip
            have c20 : (unhexK s) = true := h4
            have c21 : (bkK19 s) = true := by unfold bkK19; exact unhex_ok s hs1
            have c22 : (bkK20 s) = false := by unfold bkK20; rw [hex_back h4]; exact not_beq _
            exact Tree.way_holds (back_n1nnnyb_way hR n u (hi v) (lo v) (hi w) (lo w) s) (by rw [c11, c0, c1, c2, c3, c4, c6, c7, c8, c9, c17, c18, c19, c10, c20, c21, c22, c5, c12, c44, c27, c28, c29, c30, c31, c32]; rfl)
        · skip
          have c34 : (uwK s) = true := h1
          have c35 : (bkK21 s) = true := by unfold bkK21; exact dw_ok (uwV_in s)
          have c36 : (bkK22 s) = false := by unfold bkK22; rw [W2_hilo, uwV_ok h1]; exact not_beq _
          cases h2 : udK s <;> cases h3 : uuK s <;> cases h4 : unhexK s
          · skip
            have c17 : (udK s) = false := h2
            have c18 : (uuK s) = false := h3
            have c33 : (unhexK s) = false := h4
            exact Tree.way_holds (back_n1nnynb_way hR n u (hi v) (lo v) (hi w) (lo w) s) (by rw [c11, c0, c1, c2, c3, c4, c6, c7, c8, c9, c17, c18, c34, c35, c36, c10, c33, c5, c12, c44, c27, c28, c29, c30, c31, c32]; rfl)
          · skip
            have c17 : (udK s) = false := h2
            have c18 : (uuK s) = false := h3
            have c20 : (unhexK s) = true := h4
            have c21 : (bkK19 s) = true := by unfold bkK19; exact unhex_ok s hs1
            have c22 : (bkK20 s) = false := by unfold bkK20; rw [hex_back h4]; exact not_beq _
            exact Tree.way_holds (back_n1nnyyb_way hR n u (hi v) (lo v) (hi w) (lo w) s) (by rw [c11, c0, c1, c2, c3, c4, c6, c7, c8, c9, c17, c18, c34, c35, c36, c10, c20, c21, c22, c5, c12, c44, c27, c28, c29, c30, c31, c32]; rfl)
          · skip
            have c17 : (udK s) = false := h2
            have c37 : (uuK s) = true := h3
            have c38 : (okU (uuV s)) = true := (uuV_ok h3).1
            have c39 : (bkK23 s) = false := by unfold bkK23; rw [(uuV_ok h3).2]; exact not_beq _
            have c33 : (unhexK s) = false := h4
            exact Tree.way_holds (back_n1nyynb_way hR n u (hi v) (lo v) (hi w) (lo w) s) (by rw [c11, c0, c1, c2, c3, c4, c6, c7, c8, c9, c17, c37, c38, c39, c34, c35, c36, c10, c33, c5, c12, c44, c27, c28, c29, c30, c31, c32]; rfl)
          · skip
            have c17 : (udK s) = false := h2
            have c37 : (uuK s) = true := h3
            have c38 : (okU (uuV s)) = true := (uuV_ok h3).1
            have c39 : (bkK23 s) = false := by unfold bkK23; rw [(uuV_ok h3).2]; exact not_beq _
            have c20 : (unhexK s) = true := h4
            have c21 : (bkK19 s) = true := by unfold bkK19; exact unhex_ok s hs1
            have c22 : (bkK20 s) = false := by unfold bkK20; rw [hex_back h4]; exact not_beq _
            exact Tree.way_holds (back_n1nyyyb_way hR n u (hi v) (lo v) (hi w) (lo w) s) (by rw [c11, c0, c1, c2, c3, c4, c6, c7, c8, c9, c17, c37, c38, c39, c34, c35, c36, c10, c20, c21, c22, c5, c12, c44, c27, c28, c29, c30, c31, c32]; rfl)
          · skip
            have c40 : (udK s) = true := h2
            have c41 : (okI (udV s)) = true := (udV_ok h2).1
            have c42 : (bkK24 s) = false := by unfold bkK24; rw [(udV_ok h2).2]; exact not_beq _
            have c18 : (uuK s) = false := h3
            have c33 : (unhexK s) = false := h4
            exact Tree.way_holds (back_n1ynynb_way hR n u (hi v) (lo v) (hi w) (lo w) s) (by rw [c11, c0, c1, c2, c3, c4, c6, c7, c8, c9, c40, c41, c42, c18, c34, c35, c36, c10, c33, c5, c12, c44, c27, c28, c29, c30, c31, c32]; rfl)
          · skip
            have c40 : (udK s) = true := h2
            have c41 : (okI (udV s)) = true := (udV_ok h2).1
            have c42 : (bkK24 s) = false := by unfold bkK24; rw [(udV_ok h2).2]; exact not_beq _
            have c18 : (uuK s) = false := h3
            have c20 : (unhexK s) = true := h4
            have c21 : (bkK19 s) = true := by unfold bkK19; exact unhex_ok s hs1
            have c22 : (bkK20 s) = false := by unfold bkK20; rw [hex_back h4]; exact not_beq _
            exact Tree.way_holds (back_n1ynyyb_way hR n u (hi v) (lo v) (hi w) (lo w) s) (by rw [c11, c0, c1, c2, c3, c4, c6, c7, c8, c9, c40, c41, c42, c18, c34, c35, c36, c10, c20, c21, c22, c5, c12, c44, c27, c28, c29, c30, c31, c32]; rfl)
          · skip
            have c40 : (udK s) = true := h2
            have c41 : (okI (udV s)) = true := (udV_ok h2).1
            have c42 : (bkK24 s) = false := by unfold bkK24; rw [(udV_ok h2).2]; exact not_beq _
            have c37 : (uuK s) = true := h3
            have c38 : (okU (uuV s)) = true := (uuV_ok h3).1
            have c39 : (bkK23 s) = false := by unfold bkK23; rw [(uuV_ok h3).2]; exact not_beq _
            have c33 : (unhexK s) = false := h4
            exact Tree.way_holds (back_n1yyynb_way hR n u (hi v) (lo v) (hi w) (lo w) s) (by rw [c11, c0, c1, c2, c3, c4, c6, c7, c8, c9, c40, c41, c42, c37, c38, c39, c34, c35, c36, c10, c33, c5, c12, c44, c27, c28, c29, c30, c31, c32]; rfl)
          · skip
            have c40 : (udK s) = true := h2
            have c41 : (okI (udV s)) = true := (udV_ok h2).1
            have c42 : (bkK24 s) = false := by unfold bkK24; rw [(udV_ok h2).2]; exact not_beq _
            have c37 : (uuK s) = true := h3
            have c38 : (okU (uuV s)) = true := (uuV_ok h3).1
            have c39 : (bkK23 s) = false := by unfold bkK23; rw [(uuV_ok h3).2]; exact not_beq _
            have c20 : (unhexK s) = true := h4
            have c21 : (bkK19 s) = true := by unfold bkK19; exact unhex_ok s hs1
            have c22 : (bkK20 s) = false := by unfold bkK20; rw [hex_back h4]; exact not_beq _
            exact Tree.way_holds (back_n1yyyyb_way hR n u (hi v) (lo v) (hi w) (lo w) s) (by rw [c11, c0, c1, c2, c3, c4, c6, c7, c8, c9, c40, c41, c42, c37, c38, c39, c34, c35, c36, c10, c20, c21, c22, c5, c12, c44, c27, c28, c29, c30, c31, c32]; rfl)
  · skip
    have c45 : (decide ((hi v) ≥ 0)) = false := decide_eq_false hv
    by_cases hz : s.size = 0
    · obtain ⟨h2, h3, h1, h4⟩ := empty_k hz
      have c17 : (udK s) = false := h2
      have c18 : (uuK s) = false := h3
      have c19 : (uwK s) = false := h1
      have c20 : (unhexK s) = true := h4
      have c21 : (bkK19 s) = true := by unfold bkK19; exact unhex_ok s hs1
      have c22 : (bkK20 s) = false := by unfold bkK20; rw [hex_back h4]; exact not_beq _
      have c23 : (bkK11 s) = true := by unfold bkK11; exact decide_eq_true hz
      have c24 : (bkK25 s) = true := by unfold bkK25; exact empty_eq hz
      have c25 : (bkK14 s) = true := by unfold bkK14; exact empty_eq2 hz
      have c26 : (bkK26 s) = true := by unfold bkK26; exact count_zero s hs1
      exact Tree.way_holds (back_n0nnnya_way hR n u (hi v) (lo v) (hi w) (lo w) s) (by rw [c11, c0, c1, c2, c3, c4, c6, c7, c8, c9, c17, c18, c19, c10, c20, c21, c22, c5, c45, c23, c24, c25, c26]; rfl)
    · skip
      have c27 : (bkK11 s) = false := by unfold bkK11; exact decide_eq_false hz
      have c28 : (bkK12 s) = true := by unfold bkK12; exact join_ok s hs1
      have c29 : (bkK13 s) = true := by unfold bkK13; exact join_eq s
      have c30 : (bkK14 s) = false := by unfold bkK14; exact nonempty_eq hz
      have c31 : (bkK15 s) = false := by unfold bkK15; exact fields_pos s
      have c32 : (bkK16 s) = true := by unfold bkK16; exact count_ok s hs1
      cases h1 : uwK s
      · obtain ⟨h2, h3⟩ := no_uw h1
        have c17 : (udK s) = false := h2
        have c18 : (uuK s) = false := h3
        have c19 : (uwK s) = false := h1
        cases h4 : unhexK s
        · skip
          have c33 : (unhexK s) = false := h4
          exact Tree.way_holds (back_n1nnnna_way hR n u (hi v) (lo v) (hi w) (lo w) s) (by rw [c11, c0, c1, c2, c3, c4, c6, c7, c8, c9, c17, c18, c19, c10, c33, c5, c45, c27, c28, c29, c30, c31, c32]; rfl)
        · skip
          have c20 : (unhexK s) = true := h4
          have c21 : (bkK19 s) = true := by unfold bkK19; exact unhex_ok s hs1
          have c22 : (bkK20 s) = false := by unfold bkK20; rw [hex_back h4]; exact not_beq _
          exact Tree.way_holds (back_n1nnnya_way hR n u (hi v) (lo v) (hi w) (lo w) s) (by rw [c11, c0, c1, c2, c3, c4, c6, c7, c8, c9, c17, c18, c19, c10, c20, c21, c22, c5, c45, c27, c28, c29, c30, c31, c32]; rfl)
      · skip
        have c34 : (uwK s) = true := h1
        have c35 : (bkK21 s) = true := by unfold bkK21; exact dw_ok (uwV_in s)
        have c36 : (bkK22 s) = false := by unfold bkK22; rw [W2_hilo, uwV_ok h1]; exact not_beq _
        cases h2 : udK s <;> cases h3 : uuK s <;> cases h4 : unhexK s
        · skip
          have c17 : (udK s) = false := h2
          have c18 : (uuK s) = false := h3
          have c33 : (unhexK s) = false := h4
          exact Tree.way_holds (back_n1nnyna_way hR n u (hi v) (lo v) (hi w) (lo w) s) (by rw [c11, c0, c1, c2, c3, c4, c6, c7, c8, c9, c17, c18, c34, c35, c36, c10, c33, c5, c45, c27, c28, c29, c30, c31, c32]; rfl)
        · skip
          have c17 : (udK s) = false := h2
          have c18 : (uuK s) = false := h3
          have c20 : (unhexK s) = true := h4
          have c21 : (bkK19 s) = true := by unfold bkK19; exact unhex_ok s hs1
          have c22 : (bkK20 s) = false := by unfold bkK20; rw [hex_back h4]; exact not_beq _
          exact Tree.way_holds (back_n1nnyya_way hR n u (hi v) (lo v) (hi w) (lo w) s) (by rw [c11, c0, c1, c2, c3, c4, c6, c7, c8, c9, c17, c18, c34, c35, c36, c10, c20, c21, c22, c5, c45, c27, c28, c29, c30, c31, c32]; rfl)
        · skip
          have c17 : (udK s) = false := h2
          have c37 : (uuK s) = true := h3
          have c38 : (okU (uuV s)) = true := (uuV_ok h3).1
          have c39 : (bkK23 s) = false := by unfold bkK23; rw [(uuV_ok h3).2]; exact not_beq _
          have c33 : (unhexK s) = false := h4
          exact Tree.way_holds (back_n1nyyna_way hR n u (hi v) (lo v) (hi w) (lo w) s) (by rw [c11, c0, c1, c2, c3, c4, c6, c7, c8, c9, c17, c37, c38, c39, c34, c35, c36, c10, c33, c5, c45, c27, c28, c29, c30, c31, c32]; rfl)
        · skip
          have c17 : (udK s) = false := h2
          have c37 : (uuK s) = true := h3
          have c38 : (okU (uuV s)) = true := (uuV_ok h3).1
          have c39 : (bkK23 s) = false := by unfold bkK23; rw [(uuV_ok h3).2]; exact not_beq _
          have c20 : (unhexK s) = true := h4
          have c21 : (bkK19 s) = true := by unfold bkK19; exact unhex_ok s hs1
          have c22 : (bkK20 s) = false := by unfold bkK20; rw [hex_back h4]; exact not_beq _
          exact Tree.way_holds (back_n1nyyya_way hR n u (hi v) (lo v) (hi w) (lo w) s) (by rw [c11, c0, c1, c2, c3, c4, c6, c7, c8, c9, c17, c37, c38, c39, c34, c35, c36, c10, c20, c21, c22, c5, c45, c27, c28, c29, c30, c31, c32]; rfl)
        · skip
          have c40 : (udK s) = true := h2
          have c41 : (okI (udV s)) = true := (udV_ok h2).1
          have c42 : (bkK24 s) = false := by unfold bkK24; rw [(udV_ok h2).2]; exact not_beq _
          have c18 : (uuK s) = false := h3
          have c33 : (unhexK s) = false := h4
          exact Tree.way_holds (back_n1ynyna_way hR n u (hi v) (lo v) (hi w) (lo w) s) (by rw [c11, c0, c1, c2, c3, c4, c6, c7, c8, c9, c40, c41, c42, c18, c34, c35, c36, c10, c33, c5, c45, c27, c28, c29, c30, c31, c32]; rfl)
        · skip
          have c40 : (udK s) = true := h2
          have c41 : (okI (udV s)) = true := (udV_ok h2).1
          have c42 : (bkK24 s) = false := by unfold bkK24; rw [(udV_ok h2).2]; exact not_beq _
          have c18 : (uuK s) = false := h3
          have c20 : (unhexK s) = true := h4
          have c21 : (bkK19 s) = true := by unfold bkK19; exact unhex_ok s hs1
          have c22 : (bkK20 s) = false := by unfold bkK20; rw [hex_back h4]; exact not_beq _
          exact Tree.way_holds (back_n1ynyya_way hR n u (hi v) (lo v) (hi w) (lo w) s) (by rw [c11, c0, c1, c2, c3, c4, c6, c7, c8, c9, c40, c41, c42, c18, c34, c35, c36, c10, c20, c21, c22, c5, c45, c27, c28, c29, c30, c31, c32]; rfl)
        · skip
          have c40 : (udK s) = true := h2
          have c41 : (okI (udV s)) = true := (udV_ok h2).1
          have c42 : (bkK24 s) = false := by unfold bkK24; rw [(udV_ok h2).2]; exact not_beq _
          have c37 : (uuK s) = true := h3
          have c38 : (okU (uuV s)) = true := (uuV_ok h3).1
          have c39 : (bkK23 s) = false := by unfold bkK23; rw [(uuV_ok h3).2]; exact not_beq _
          have c33 : (unhexK s) = false := h4
          exact Tree.way_holds (back_n1yyyna_way hR n u (hi v) (lo v) (hi w) (lo w) s) (by rw [c11, c0, c1, c2, c3, c4, c6, c7, c8, c9, c40, c41, c42, c37, c38, c39, c34, c35, c36, c10, c33, c5, c45, c27, c28, c29, c30, c31, c32]; rfl)
        · skip
          have c40 : (udK s) = true := h2
          have c41 : (okI (udV s)) = true := (udV_ok h2).1
          have c42 : (bkK24 s) = false := by unfold bkK24; rw [(udV_ok h2).2]; exact not_beq _
          have c37 : (uuK s) = true := h3
          have c38 : (okU (uuV s)) = true := (uuV_ok h3).1
          have c39 : (bkK23 s) = false := by unfold bkK23; rw [(uuV_ok h3).2]; exact not_beq _
          have c20 : (unhexK s) = true := h4
          have c21 : (bkK19 s) = true := by unfold bkK19; exact unhex_ok s hs1
          have c22 : (bkK20 s) = false := by unfold bkK20; rw [hex_back h4]; exact not_beq _
          exact Tree.way_holds (back_n1yyyya_way hR n u (hi v) (lo v) (hi w) (lo w) s) (by rw [c11, c0, c1, c2, c3, c4, c6, c7, c8, c9, c40, c41, c42, c37, c38, c39, c34, c35, c36, c10, c20, c21, c22, c5, c45, c27, c28, c29, c30, c31, c32]; rfl)
variable (hR : Rt)
include hR
theorem textBack_some (blk cap off : Nat) (bs : List UInt8) (hb : ∀ (j : Nat), j < bs.length → rootW.cell? ⟨blk, off + j, none⟩ = some (u8 bs[j]!)) (n u v x : Int) (hn0 : -9223372036854775808 ≤ n) (hn1 : n ≤ 9223372036854775807) (hu0 : 0 ≤ u) (hu1 : u ≤ 18446744073709551615) (iv : InR v) (ix : InR x) (s : ByteArray) (w : World) (hw : Held w) :
    Calls Tryd.prog 6 #[.int .i64 n, .int .u64 u, .agg #[.int .i64 (hi v), .int .u64 (lo v)], .agg #[.int .i64 (hi x), .int .u64 (lo x)], .slice (some ⟨blk, off, none⟩) bs.length cap, .string s] w fun e w' => e = .returned (.bool true) ∧ Below w.heap.size w w' := by
  have hb2 : ∀ (j : Nat) v, (u8L bs)[j]? = some v → rootW.cell? ⟨blk, off + j, none⟩ = some v := fun j v hv => by
    unfold u8L at hv
    rw [List.getElem?_map] at hv
    rcases Nat.lt_or_ge j bs.length with hj | hj
    · rw [List.getElem?_eq_getElem hj] at hv
      cases hv
      rw [hb j hj, getElem!_pos bs j hj]
    · rw [List.getElem?_eq_none hj] at hv; cases hv
  letI : Inhabited Names := ⟨namesB blk cap off bs hb2⟩
  have h := calls_law (envS.mem false ((pkKnown hR).mem :: memsT hR)) hcokP 80 (v := .bool true) (backT_some hR blk cap off bs hb2 n u v x hn0 hn1 hu0 hu1 iv ix s) rfl (by unfold B0; omega)
    (fun b hb => by show (if b = B0 then _ else if b = B0 + 1 then _ else b) = b; rw [if_neg (by omega), if_neg (by omega)]) (Nat.le_refl _) ?_ w hw
  · have e : (#[.int .i64 n, .int .u64 u, .agg #[.int .i64 (hi v), .int .u64 (lo v)], .agg #[.int .i64 (hi x), .int .u64 (lo x)], .slice (some ⟨B0, off, none⟩) bs.length (B0 + 1), .string s] : Array Value).map (ren (default : Names).ρ) = #[.int .i64 n, .int .u64 u, .agg #[.int .i64 (hi v), .int .u64 (lo v)], .agg #[.int .i64 (hi x), .int .u64 (lo x)], .slice (some ⟨blk, off, none⟩) bs.length cap, .string s] := by
      have r1 : (default : Names).ρ B0 = blk := by
        show (if B0 = B0 then blk else if B0 = B0 + 1 then cap else B0) = _
        rw [if_pos rfl]
      have r2 : (default : Names).ρ (B0 + 1) = cap := by
        show (if B0 + 1 = B0 then blk else if B0 + 1 = B0 + 1 then cap else B0 + 1) = _
        rw [if_neg (by omega), if_pos rfl]
      simp [ren, renL, r1, r2]
    rw [e] at h; exact h
  · intro y hy
    simp only [List.mem_toArray, List.mem_cons, List.not_mem_nil, or_false] at hy
    rcases hy with rfl | rfl | rfl | rfl | rfl | rfl
    · rfl
    · rfl
    · rfl
    · rfl
    · simp only [bel, Bool.and_eq_true, blt_iff]; omega
    · rfl
theorem textBack_none (n u v x : Int) (hn0 : -9223372036854775808 ≤ n) (hn1 : n ≤ 9223372036854775807) (hu0 : 0 ≤ u) (hu1 : u ≤ 18446744073709551615) (iv : InR v) (ix : InR x) (s : ByteArray) (w : World) (hw : Held w) :
    Calls Tryd.prog 6 #[.int .i64 n, .int .u64 u, .agg #[.int .i64 (hi v), .int .u64 (lo v)], .agg #[.int .i64 (hi x), .int .u64 (lo x)], .slice none 0 0, .string s] w fun e w' => e = .returned (.bool true) ∧ Below w.heap.size w w' := by
  have h := calls_law (envS.mem false ((pkKnown hR).mem :: memsT hR)) hcokP 80 (v := .bool true) (backT_none hR n u v x hn0 hn1 hu0 hu1 iv ix s) rfl (Nat.le_refl _)
    (fun b hb => rfl) (Nat.zero_le _) ?_ w hw
  · have e : (#[.int .i64 n, .int .u64 u, .agg #[.int .i64 (hi v), .int .u64 (lo v)], .agg #[.int .i64 (hi x), .int .u64 (lo x)], .slice none 0 0, .string s] : Array Value).map (ren (default : Names).ρ) = #[.int .i64 n, .int .u64 u, .agg #[.int .i64 (hi v), .int .u64 (lo v)], .agg #[.int .i64 (hi x), .int .u64 (lo x)], .slice none 0 0, .string s] := by
      simp [ren, renL]; rfl
    rw [e] at h; exact h
  · intro y hy
    simp only [List.mem_toArray, List.mem_cons, List.not_mem_nil, or_false] at hy
    rcases hy with rfl | rfl | rfl | rfl | rfl | rfl
    · rfl
    · rfl
    · rfl
    · rfl
    · simp only [bel, blt_iff, B0]; omega
    · rfl
theorem textBack_walk (n : Int) (hn0 : -9223372036854775808 ≤ n) (hn1 : n ≤ 9223372036854775807) (u : Int) (hu0 : 0 ≤ u) (hu1 : u ≤ 18446744073709551615) (v : Int) (iv : InR v) (x : Int) (ix : InR x) (y : Value) (bs : List UInt8) (hb : BytesArg rootW y bs) (s : ByteArray) (w : World) (hw : Held w) :
    Calls Tryd.prog 6 #[.int .i64 n, .int .u64 u, .agg #[.int .i64 (hi v), .int .u64 (lo v)], .agg #[.int .i64 (hi x), .int .u64 (lo x)], y, .string s] w fun e w' => e = .returned (.bool true) ∧ Below w.heap.size w w' := by
  rcases hb with ⟨rfl, rfl⟩ | ⟨blk, off, cap, rfl, hc⟩
  · exact textBack_none hR n u v x hn0 hn1 hu0 hu1 iv ix s w hw
  · exact textBack_some hR blk cap off bs hc n u v x hn0 hn1 hu0 hu1 iv ix s w hw
end

end Go.Proofs.YtfjfmcnnakfjnaaDoor
