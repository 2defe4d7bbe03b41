/- Small texts of mine, one behind the other. -/
import Derived.BigQuiet
import Derived.Deep.Upon
import Derived.Test.YtlpbfbghgacjiaaPkR22
import Derived.Test.YtlpbfbghgacjiaaPkR6
import Derived.Test.YtlpbfbghgacjiaaPkR10
import Derived.Test.YtlpbfbghgacjiaaPkR16
import Derived.Test.YtlpbfbghgacjiaaPkR2
/- The model's search in a list of picks. -/
namespace Go.Proofs.Ytlpbfbghgacjiaa.Wp9
open Go.RowKit
open Nd0 (Kept Ints WInts IntsIn lt_of_cell)
open Op6 (Pk PkAt Pks)
open Ta2 (bitB)
open Tc2 (sInT sInF ret_bool)
open Wp7
set_option linter.unusedVariables false

set_option maxHeartbeats 2000000 in
theorem sSame (w : World) (a b : Option Addr) (l m : List Int) (c d : Nat) (h : Ints w a l) (h' : Ints w b m) :
    Calls Try.prog 99 #[.slice a l.length c, .slice b m.length d] w fun e w' => e = .returned (.bool (decide (l = m))) ∧ Below w.heap.size w w' := by
  have H : Hid (Ints w a l) := h
  have H' : Hid (Ints w b m) := h'
  have hm := h.1
  unfold maxLen at hm
  clear h h'
  by_cases hl : l.length = m.length
  rotate_left
  · have HF : Hid (decide (l = m) = false) := decide_eq_false (fun e => hl (by rw [e]))
    have hz : ((l.length : Int) != (m.length : Int)) = true := by simp; omega
    have hz2 : ¬ (l.length : Int) = (m.length : Int) := by omega
    clear hl
    go_enter Try.func99, Try.ntmps99
    go_wp2
    go_ret
    exact ⟨ret_bool HF.out.symm, Below.refl _ _⟩
  have HL : Hid (l.length = m.length) := hl
  obtain ⟨n, hn⟩ : ∃ n, n = l.length := ⟨_, rfl⟩
  rw [← hl, ← hn]
  have HN : Hid (n = l.length) := hn
  rw [← hn] at hm
  clear hl hn
  go_enter Try.func99, Try.ntmps99
  go_wp2
  go_loopw [5] (fun i wr => ∃ k : Nat, k ≤ n ∧ i = .int .i64 k ∧ (∀ j (h1 : j < l.length) (h2 : j < m.length), j < k → l[j] = m[j]) ∧ Below w.heap.size w wr) (fun i _ => n - (intOf i).toNat)
  case atStart => exact ⟨0, Nat.zero_le _, rfl, fun j _ _ hj => by omega, Below.refl _ _⟩
  case round =>
    obtain ⟨k, hk, rfl, he, hb⟩ := hrel
    have HB : Hid (Below w.heap.size w wr) := hb
    clear hb
    have HE : Hid (∀ j (h1 : j < l.length) (h2 : j < m.length), j < k → l[j] = m[j]) := he
    clear he
    by_cases hlt : k < n
    · have hlz : (k : Int) < (n : Int) := by omega
      have k1 : k < l.length := by have := HN.out; omega
      have k2 : k < m.length := by have := HN.out; have := HL.out; omega
      obtain ⟨b1, o1, e1, c1⟩ : ∃ b o, a = some ⟨b, o, none⟩ ∧ wr.cell? ⟨b, o + k, none⟩ = some (.int .i64 l[k]) := by
        rcases (H.out.below HB.out).2 with e | ⟨b, o, e, hc⟩
        · omega
        · exact ⟨b, o, e, hc k k1⟩
      obtain ⟨b2, o2, e2, c2⟩ : ∃ b' o, b = some ⟨b', o, none⟩ ∧ wr.cell? ⟨b', o + k, none⟩ = some (.int .i64 m[k]) := by
        rcases (H'.out.below HB.out).2 with e | ⟨b, o, e, hc⟩
        · omega
        · exact ⟨b, o, e, hc k k2⟩
      subst e1 e2
      have hl1 := lt_of_cell c1
      have hl2 := lt_of_cell c2
      by_cases hx : l[k] = m[k]
      · have HNX : Hid (∀ j (h1 : j < l.length) (h2 : j < m.length), j < k + 1 → l[j] = m[j]) := fun j h1 h2 h3 => by
          by_cases e : j = k
          · subst e; exact hx
          · exact HE.out j h1 h2 (by omega)
        rw [hx] at c1
        generalize m[k] = x at *
        clear hx
        have hxx : (x != x) = false := by simp
        go_wp2
        go_quiet (fail)
        go_wp2
        go_roundw
        case rel => exact ⟨k + 1, by omega, by go_num, HNX.out, HB.out.trans ⟨rfl, rfl, rfl, Nat.le_refl _, fun _ _ => rfl⟩⟩
        case measure => simp [intOf]; omega
      · have HF : Hid (decide (l = m) = false) := decide_eq_false (fun e => hx (by subst e; rfl))
        have hxx : (l[k] != m[k]) = true := by simpa using hx
        generalize l[k] = x at *
        generalize m[k] = y at *
        go_wp2
        go_quiet (fail)
        go_wp2
        go_ret
        exact ⟨ret_bool HF.out.symm, HB.out.trans ⟨rfl, rfl, rfl, Nat.le_refl _, fun _ _ => rfl⟩⟩
    · have hlz : ¬ (k : Int) < (n : Int) := by omega
      have HT : Hid (decide (l = m) = true) := by
        refine decide_eq_true ?_
        apply List.ext_getElem HL.out
        intro j h1 h2
        exact HE.out j h1 h2 (by have := HN.out; omega)
      go_wp2
      go_ret
      exact ⟨ret_bool HT.out.symm, HB.out⟩

/-- What a list picks behind some values. -/
def findP : List Pk → List Int → Int
  | [], _ => -1
  | p :: r, l => if p.l = l then (if bitB p.v = true then p.v else -1) else findP r l
theorem find_drop {ps : List Pk} {j : Nat} (h : j < ps.length) (l : List Int) : findP (ps.drop j) l = if ps[j].l = l then (if bitB ps[j].v = true then ps[j].v else -1) else findP (ps.drop (j + 1)) l := by
  rw [List.drop_eq_getElem_cons h]
  rfl
theorem bit_in {x : Int} : bitB x = true ↔ 0 ≤ x ∧ x ≤ 1 := by
  unfold bitB
  rw [decide_eq_true_iff]
  omega
theorem ret_int {a b : Int} (h : a = b) : Ending.returned (.int .i64 a) = .returned (.int .i64 b) := by rw [h]
set_option maxRecDepth 100000 in
set_option maxHeartbeats 2000000 in
theorem sFind (w : World) (a b : Option Addr) (ps : List Pk) (l : List Int) (c d : Nat) (h : Pks w a ps) (h' : Ints w b l) :
    Calls Try.prog 67 #[.slice a ps.length c, .slice b l.length d] w fun e w' => e = .returned (.int .i64 (findP ps l)) ∧ Below w.heap.size w w' := by
  have H : Hid (Pks w a ps) := h
  have H' : Hid (Ints w b l) := h'
  have hm := h.1
  unfold maxLen at hm
  clear h h'
  go_enter Try.func67, Try.ntmps67
  go_wp2
  go_loopw [5] (fun i wr => ∃ k : Nat, k ≤ ps.length ∧ i = .int .i64 k ∧ findP ps l = findP (ps.drop k) l ∧ Below w.heap.size w wr) (fun i _ => ps.length - (intOf i).toNat)
  case atStart => exact ⟨0, Nat.zero_le _, rfl, rfl, Below.refl _ _⟩
  case round =>
    obtain ⟨k, hk, rfl, he, hb⟩ := hrel
    have HB : Hid (Below w.heap.size w wr) := hb
    clear hb
    have HE : Hid (findP ps l = findP (ps.drop k) l) := he
    clear he
    by_cases hlt : k < ps.length
    · have hlz : (k : Int) < (ps.length : Int) := by omega
      have HD : Hid _ := find_drop hlt l
      obtain ⟨b1, o1, e1, a5, c5, p0, p1, p2⟩ : ∃ b o, a = some ⟨b, o, none⟩ ∧ PkAt wr b (o + k * 2) ps[k] := by
        rcases (pks_below H.out HB.out).2 with e | ⟨b, o, e, hc⟩
        · omega
        · exact ⟨b, o, e, hc k hlt⟩
      subst e1
      have hbl := lt_of_cell p0
      have HSM : Hid _ := sSame wr a5 b ps[k].l l c5 d p2 (H'.out.below HB.out)
      have P1 : Hid (wr.cell? ⟨b1, o1 + k * 2 + 1, none⟩ = some (.int .i64 ps[k].v)) := p1
      clear p2
      by_cases hx : ps[k].l = l
      · rw [decide_eq_true hx] at HSM
        have HV : Hid (findP ps l = if bitB ps[k].v = true then ps[k].v else -1) := by
          show _ = _
          rw [HE.out, HD.out, if_pos hx]
        clear hx HD
        generalize ps[k].l.length = n5 at *
        generalize ps[k].v = v5 at *
        cases hb : bitB v5
        · have hno : ¬ (0 ≤ v5 ∧ v5 ≤ 1) := fun e => by rw [bit_in.2 e] at hb; cases hb
          have HR : Hid (findP ps l = -1) := by show _ = _; rw [HV.out, hb]; rfl
          clear hb
          go_wp2_with (first | (go_at_call 99; refine Calls.mono HSM.out ?_; rintro e w1 ⟨rfl, hb1⟩; have p1 : w1.cell? ⟨b1, o1 + k * 2 + 1, none⟩ = some (.int .i64 v5) := (by rw [hb1.cell (p := ⟨b1, o1 + k * 2 + 1, none⟩) hbl]; exact P1.out); have hbl1 := lt_of_cell p1; have HB1 : Hid (Below w.heap.size w w1) := HB.out.trans (hb1.mono HB.out.size); clear hb1) | (go_at_call 62; refine (sInF _ hno).mono ?_; rintro e w' ⟨rfl, hw'⟩; have hw'' := hw'.symm; clear hw'; subst hw''))
          go_ret
          exact ⟨ret_int HR.out.symm, HB1.out⟩
        · have hyes := bit_in.1 hb
          have HR : Hid (findP ps l = v5) := by show _ = _; rw [HV.out, hb]; rfl
          clear hb
          go_wp2_with (first | (go_at_call 99; refine Calls.mono HSM.out ?_; rintro e w1 ⟨rfl, hb1⟩; have p1 : w1.cell? ⟨b1, o1 + k * 2 + 1, none⟩ = some (.int .i64 v5) := (by rw [hb1.cell (p := ⟨b1, o1 + k * 2 + 1, none⟩) hbl]; exact P1.out); have hbl1 := lt_of_cell p1; have HB1 : Hid (Below w.heap.size w w1) := HB.out.trans (hb1.mono HB.out.size); clear hb1) | (go_at_call 62; refine (sInT _ hyes).mono ?_; rintro e w' ⟨rfl, hw'⟩; have hw'' := hw'.symm; clear hw'; subst hw''))
          go_ret
          exact ⟨ret_int HR.out.symm, HB1.out⟩
      · rw [decide_eq_false hx] at HSM
        have HNX : Hid (findP ps l = findP (ps.drop (k + 1)) l) := by
          show _ = _
          rw [HE.out, HD.out, if_neg hx]
        clear hx HD
        generalize ps[k].l.length = n5 at *
        generalize ps[k].v = v5 at *
        go_wp2_with (go_at_call 99; refine Calls.mono HSM.out ?_; rintro e w1 ⟨rfl, hb1⟩; have p1 : w1.cell? ⟨b1, o1 + k * 2 + 1, none⟩ = some (.int .i64 v5) := (by rw [hb1.cell (p := ⟨b1, o1 + k * 2 + 1, none⟩) hbl]; exact P1.out); have hbl1 := lt_of_cell p1; have HB1 : Hid (Below w.heap.size w w1) := HB.out.trans (hb1.mono HB.out.size); clear hb1)
        go_roundw
        case rel => exact ⟨k + 1, by omega, by go_num, HNX.out, HB1.out⟩
        case measure => simp [intOf]; omega
    · have hlz : ¬ (k : Int) < (ps.length : Int) := by omega
      have HR : Hid (findP ps l = -1) := by
        show _ = _
        rw [HE.out, List.drop_of_length_le (by omega)]
        rfl
      go_wp2
      go_ret
      exact ⟨ret_int HR.out.symm, HB.out⟩
end Go.Proofs.Ytlpbfbghgacjiaa.Wp9

/- What a list of picks gives: the closure of Checks. Plain: the first pick at a spot is the first with these values. -/
namespace Go.Proofs.Ytlpbfbghgacjiaa.Wp14
open Go.RowKit
open Nd0 (Kept Ints WInts IntsIn lt_of_cell)
open Op6 (Pk PkAt Pks)
open Ta2 (bitB plc)
open Vo0 (allB valB iVals)
open Tc2 (tv)
open Mv0 (Mv Sp Sm putF)
open Wp9 (findP bit_in)
open Wp12 Wp13
set_option linter.unusedVariables false

theorem plc_pre (l : List Int) (y : Int) (k : Nat) (h : k ≤ l.length) : plc (l ++ [y]) k = plc l k := by
  induction k with
  | zero => rfl
  | succ k ih =>
    show 2 * plc (l ++ [y]) k + ((l ++ [y]).getD k 0).toNat = 2 * plc l k + (l.getD k 0).toNat
    have e : (l ++ [y]).getD k 0 = l.getD k 0 := by simp [List.getD, List.getElem?_append_left (show k < l.length by omega)]
    rw [e, ih (by omega)]
theorem plc_snoc (l : List Int) (y : Int) : plc (l ++ [y]) (l ++ [y]).length = 2 * plc l l.length + y.toNat := by
  rw [List.length_append, List.length_singleton]
  show 2 * plc (l ++ [y]) l.length + ((l ++ [y]).getD l.length 0).toNat = _
  rw [plc_pre l y l.length (Nat.le_refl _)]
  simp [List.getD]
/-- Bits are told by how many they are and by their number. -/
theorem sp_inj (n : Nat) : ∀ {l m : List Int}, l.length = n → m.length = n → (∀ b ∈ l, bitB b = true) → (∀ b ∈ m, bitB b = true) → plc l l.length = plc m m.length → l = m := by
  induction n with
  | zero =>
    intro l m h1 h2 _ _ _
    rw [List.eq_nil_of_length_eq_zero h1, List.eq_nil_of_length_eq_zero h2]
  | succ n ih =>
    intro l m h1 h2 h3 h4 h5
    have hl : l ≠ [] := fun e => by rw [e] at h1; cases h1
    have hm : m ≠ [] := fun e => by rw [e] at h2; cases h2
    obtain ⟨l', x, rfl⟩ : ∃ l' x, l = l' ++ [x] := ⟨l.dropLast, l.getLast hl, (List.dropLast_concat_getLast hl).symm⟩
    obtain ⟨m', y, rfl⟩ : ∃ m' y, m = m' ++ [y] := ⟨m.dropLast, m.getLast hm, (List.dropLast_concat_getLast hm).symm⟩
    rw [List.length_append, List.length_singleton] at h1 h2
    rw [plc_snoc, plc_snoc] at h5
    have hx := bit_in.1 (h3 x (by simp))
    have hy := bit_in.1 (h4 y (by simp))
    have e1 : x = y := by omega
    have e2 : l' = m' := ih (by omega) (by omega) (fun b hb => h3 b (by simp [hb])) (fun b hb => h4 b (by simp [hb])) (by omega)
    rw [e1, e2]
theorem val_mem {l : List Int} (h : valB l 12 = true) : (∀ b ∈ l, bitB b = true) ∧ l.length ≤ 12 := by
  unfold valB allB at h
  simp at h
  exact ⟨h.1, by omega⟩
theorem sp_eq {l m : List Int} (hl : valB l 12 = true) (hm : valB m 12 = true) : sp l = sp m ↔ l = m := by
  refine ⟨fun h => ?_, fun h => by rw [h]⟩
  have e1 : l.length = m.length := congrArg Prod.fst h
  have e2 : plc l l.length = plc m m.length := congrArg Prod.snd h
  exact sp_inj l.length rfl e1.symm (val_mem hl).1 (val_mem hm).1 e2
/-- What the map says at right values is what the list picks. -/
theorem fp_find {ps : List Pk} {vs : List Int} (h : valB vs 12 = true) : findP ps vs = (match fp ps (sp vs) with | some v => if bitB v = true then v else -1 | none => -1) := by
  induction ps with
  | nil => rfl
  | cons p r ih =>
    unfold findP fp
    by_cases e : p.l = vs
    · have hy : valB p.l 12 = true ∧ sp p.l = sp vs := ⟨by rw [e]; exact h, by rw [e]⟩
      rw [if_pos e, if_pos (c := valB p.l 12 = true ∧ sp p.l = sp vs) hy]
    · have hn : ¬ (valB p.l 12 = true ∧ sp p.l = sp vs) := fun c => e ((sp_eq c.1 h).1 c.2)
      rw [if_neg e, if_neg hn, ih]

set_option maxRecDepth 100000 in
set_option maxHeartbeats 4000000 in
theorem iGive (va : Option Addr) (vs : List Int) (vc : Nat) (N : Int) (S : ByteArray) (mb bm k : Nat) (f : Sp → Option Int) (w : World) (h : valB vs 12 = true) (hI : Ints w va vs) (hm : w.cell? ⟨mb, 0, none⟩ = some (.map (some bm))) (hM : Mv w bm k f) :
    Calls Try.prog 54 #[.slice va vs.length vc, tv N S, .pointer (some ⟨mb, 0, none⟩)] w fun e w' => e = .returned (.tuple #[.int .i64 ((f (sp vs)).getD 0), .bool (f (sp vs)).isSome]) ∧ Below w.heap.size w w' := by
  obtain ⟨v1, v2⟩ := val_bits h
  obtain ⟨X0, hX0⟩ : ∃ X, X = w.alloc (.cells #[.int .i64 N, .string S] 26) := ⟨_, rfl⟩
  have HB0 : Hid (Below w.heap.size w X0) := by rw [hX0]; exact (Below.refl _ _).alloc (Nat.le_refl _) _
  have hE : w.alloc (.cells #[.int .i64 N, .string S] 26) = X0 := hX0.symm
  have HBD : Hid (Below w.heap.size w X0.drew) := HB0.out.drew
  have cD : X0.drew.cell? ⟨mb, 0, none⟩ = some (.map (some bm)) := by rw [HBD.out.cell (p := ⟨mb, 0, none⟩) (lt_of_cell hm)]; exact hm
  have HSP : Hid _ := iSpot va vs vc X0.drew v2 v1 (hI.below HBD.out)
  have HMD : Hid (Mv X0.drew bm k f) := hM.below HBD.out
  have HSM : Hid (Sm (sp vs)) := sp_small h
  have hmb := lt_of_cell cD
  have CD : Hid (X0.drew.cell? ⟨mb, 0, none⟩ = some (.map (some bm))) := cD
  obtain ⟨X, hX⟩ : ∃ X : Sp, X = sp vs := ⟨_, rfl⟩
  have hX1 : (vs.length : Int) = (X.1 : Int) := by rw [hX]; rfl
  have hX2 : ((plc vs vs.length : Nat) : Int) = (X.2 : Int) := by rw [hX]; rfl
  rw [hX2] at HSP
  have HSP2 : Hid (Calls Try.prog 55 #[.slice va vs.length vc] X0.drew fun e w' => e = .returned (Mv0.agg X) ∧ Below X0.drew.heap.size X0.drew w') := Calls.mono HSP.out fun e w' h => by rw [hX1] at h; exact h
  rw [← hX] at HSM ⊢
  clear hX0 h v1 v2 hI hm hM HSP hX hX1 hX2
  go_enter Try.func54, Try.ntmps54
  go_upto_region 1 with fail
  clear hE
  go_region_held3 (fun w' => w'.cell? ⟨mb, 0, none⟩ = some (.map (some bm))) ((first | (with_reducible exact CD.out) | (with_reducible exact CE.out))) ((go_at_call 55; (with_reducible refine Calls.mono HSP2.out ?_); rintro e x1 ⟨rfl, hb1⟩; have CE : Hid (x1.cell? ⟨mb, 0, none⟩ = some (.map (some bm))) := (by show _ = _; rw [hb1.cell (p := ⟨mb, 0, none⟩) (lt_of_cell CD.out)]; exact CD.out); have hlk := (HMD.out.below hb1).look HSM.out; have HB1 : Hid (Below w.heap.size w x1) := HBD.out.trans (hb1.mono HBD.out.size); clear hb1))
  go_wp2
  go_ret2
  exact ⟨rfl, HB1.out⟩
end Go.Proofs.Ytlpbfbghgacjiaa.Wp14

/- A whole list of numbers appended to an empty one; a row without its first flag. (As in Mu1 and Lm2, alone.) -/
namespace Go.Proofs.Ytlpbfbghgacjiaa.Wq0
open Go.RowKit
open Nd0 (Kept Ints lt_of_cell)
open Nd6 (Bools)
open Ap0
set_option linter.unusedVariables false

theorem add_at (b o j : Nat) : (⟨b, o, none⟩ : Addr).add j = ⟨b, o + j, none⟩ := by simp [Addr.add]
theorem allIs {ops : Array Oper} {rest : List Oper} {o : Oper} {a : Act} {Q : Exit → Act → World → Prop} (W : World) (hgd : o.guard = none) (s x : Operand)
    (ho : o.op = .call { callee := .builtin .append, args := #[s, x], argTypes := #[35, 35] })
    (l : List Int) (y : Option Addr) (c G : Nat) (hs : a.eval s = .slice (some ⟨G, 0, none⟩) 0 0) (hG : G = W.heap.size) (hx : a.eval x = .slice y l.length c) (hP : Ints W y l) (hl : l.length ≤ 1048576)
    (h : ∀ v w', Ows w' W.heap.size v l → Below W.heap.size W w' → wpList Try.prog ops Q rest (a.put o.dst v) w') :
    wpList Try.prog ops Q (o :: rest) a (W.alloc (.cells #[] 3)) := by
  subst hG
  obtain ⟨i, hi, hzz⟩ := Option.map_eq_some_iff.1 infoInt
  simp only [Prod.mk.injEq] at hzz
  obtain ⟨hz, hsz, hb⟩ := hzz
  have hB : Below W.heap.size W (W.alloc (.cells #[] 3)) := (Below.refl _ _).alloc (Nat.le_refl _) _
  cases y with
  | none =>
    have hl0 : l.length = 0 := by
      rcases hP.2 with e | ⟨b, o, hb, _⟩
      · exact e
      · cases hb
    have hE : l = [] := List.eq_nil_of_length_eq_zero hl0
    refine wpList_plain hgd fun K hK => ?_
    have hr := run_append_nothing (P := Try.prog) (W.alloc (.cells #[] 3)) 35 35 o.type 3 i Try.underlying35 hi (some ⟨W.heap.size, 0, none⟩) 0 0 (Nat.le_refl _) (.slice none l.length c) (by rw [hl0]; exact Src.ofNil _ Try.underlying35 c)
    unfold Oper.wp execOp
    simp only [ho, resolve, invoke, builtin, Sem.run_bind, Sem.run_pure, Result.andThen_ok, List.map_toArray, List.map_cons, List.map_nil, hs, hx, hr]
    exact hK _ _ (h _ _ (by rw [hE]; exact Ows.lit W W.heap.size (Nat.le_refl _)) hB)
  | some ad =>
    refine wpList_append_own_at (P := Try.prog) (W.alloc (.cells #[] 3)) hgd s x 35 ho W.heap.size 3 i _ 1 8 Try.underlying35 hi hz hsz hb rfl (by omega) (.slice (some ⟨W.heap.size, 0, none⟩) 0 0) 0 [] hs (Ows.lit W W.heap.size (Nat.le_refl _)) ad l.length c (l.map fun x => Value.int .i64 x) hx (by simp) ?_ (fun u hu => by
        obtain ⟨n, _, rfl⟩ := List.mem_map.1 hu
        rfl) (by unfold maxLen; omega) (by omega) (by simp) ?_
    · rcases hP.2 with e | ⟨b, o, hb, hc⟩
      · intro j u hu
        have : l = [] := List.eq_nil_of_length_eq_zero e
        subst this
        cases hu
      · cases hb
        exact (fun j u hu => by
        have hj : j < l.length := by have := (List.getElem?_eq_some_iff.1 hu).1; simpa using this
        rw [add_at, hB.cell (lt_of_cell (hc j hj)), hc j hj, ← hu]
        simp [hj])
    · intro v' w' h1 h2 h3 h4
      rw [Nat.zero_add, List.nil_append] at h1
      exact h v' w' h1 (hB.trans ⟨h2.os, h2.tape, h2.output, by have := h2.size; have := hB.size; omega, fun k hk => h2.block k (Nat.lt_of_lt_of_le hk hB.size) (fun e => by simp [Value.ownBlock] at e; omega)⟩)
set_option maxRecDepth 100000 in
theorem slc (b o n c t c1 : Nat) (h : n + 1 ≤ c) (ht : t = if c = 1 then o else o + 1) (h1 : c1 = c - 1) (w : World) :
    (Instr.slice 24 (.slice (some ⟨b, o, none⟩) (n + 1) c) (some (.int .i64 1)) none none).run Try.prog w = .ok (.slice (some ⟨b, t, none⟩) n c1) w := by
  rw [run_slice_l w 24 _ _ _ Try.underlying24 .i64 1 (by omega) (by omega)]
  subst ht h1
  by_cases e : c = 1
  · simp [go_sem, e, sliced]
  · simp [go_sem, e, sliced]
theorem tail {W : World} {a : Option Addr} {q : Bool} {r : List Bool} {c : Nat} (h : Bools W a (q :: r)) (hc : r.length + 1 ≤ c) : ∃ b o, a = some ⟨b, o, none⟩ ∧ W.cell? ⟨b, o, none⟩ = some (.bool q) ∧ ∃ t, t = (if c = 1 then o else o + 1) ∧ Bools W (some ⟨b, t, none⟩) r := by
  rcases h.2 with h0 | ⟨b, o, ha, hx⟩
  · simp at h0
  · refine ⟨b, o, ha, hx 0 (by simp), _, rfl, ?_⟩
    refine ⟨by have := h.1; simp at this; omega, ?_⟩
    by_cases e : r.length = 0
    · exact .inl e
    · rw [if_neg (by omega)]
      refine .inr ⟨b, o + 1, rfl, fun i hi => ?_⟩
      have := hx (i + 1) (by simpa using hi)
      rw [show o + 1 + i = o + (i + 1) by omega]
      simpa using this
end Go.Proofs.Ytlpbfbghgacjiaa.Wq0
