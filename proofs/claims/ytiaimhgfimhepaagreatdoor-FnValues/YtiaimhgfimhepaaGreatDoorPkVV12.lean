import Derived.Test.YtiaimhgfimhepaaGreatDoorPkVV11
import Derived.Test.YtiaimhgfimhepaaGreatDoorPkVV1
import Derived.Test.YtiaimhgfimhepaaGreatDoorPkVV6
namespace Go.Proofs.YtiaimhgfimhepaaGreatDoor
set_option maxRecDepth 100000
set_option maxHeartbeats 8000000
set_option linter.unusedVariables false
namespace Dw9
open Go.RowKit
open Nd0 Nd3 Ap0 Ap2 Tm5 Dw0 Dw4 Dw5 Dw6 Dw7 Dw8
open Dr0 (Cur Only Bytes Off)
open Dr1 (once below)
open Sp10 (sQuant)
def EPost (e : Ending) (w' : World) (B : Nat) : Prop := ∃ (g c : Nat) (l : List Int), e = .returned (.slice (some ⟨g, 0, none⟩) l.length c) /\ Ints w' (some ⟨g, 0, none⟩) l /\ (l.length = 7 \/ l.length = 8) /\ l.length <= c /\ B <= g
theorem epost {w : World} {B : Nat} {v : Value} {l : List Int} (h : Ows w B v l) (hl : l.length = 7 \/ l.length = 8) : EPost (.returned v) w B := by
 have hform := h.form
 obtain ⟨h1, h2⟩ := h
 rcases h2 with ⟨e, h0⟩ | ⟨g, cap, cur, e, hb, hg, hn, hm, hs, ht⟩
 ·omega
 ·subst e
  obtain ⟨a, c, hv, hw⟩ := hform
  have e1 : a = some ⟨g, 0, none⟩ := by injection hv with e1 e2 e3; exact e1.symm
  rw [e1] at hw
  exact ⟨g, cap, l, rfl, hw.ints, hl, hn, hb⟩
theorem env2 (w : World) (b : Nat) (a : Option Addr) (len cap : Nat) (hc : Cur w b a len cap) (hlo : Low a len b) :
 Calls Tryz.prog 13 #[.pointer (some ⟨b, 0, none⟩)] w fun e w' => (EPost e w' w.heap.size) /\ Kept (fun k => k = b) w w' := by
 have HC0 : Hid (Cur w b a len cap) := hc
 have HLO : Hid (Low a len b) := hlo
 have hbs := hc.lt
 clear hc hlo
 have hbel : Below w.heap.size w (w.alloc (.cells #[] 3)) := (Below.refl _ _).alloc (Nat.le_refl _) _
 have HC1 : Hid (Cur (w.alloc (.cells #[] 3)) b a len cap) := cur_kept HC0.out (S := fun _ => False) (Kept.ofBelow hbel) (fun h => h) (.inr fun _ _ h => h)
 clear hbel
 go_enter Tryz.func13, Tryz.ntmps13
 go_wp2_with fail
 refine (once _ b a len cap 20 (by omega) (by omega) HC1.out).mono ?_
 rintro e w1 ⟨⟨x1, rfl⟩, hc', ho'⟩
 have HC2 : Hid (Cur w1 b a len cap) := hc'
 have HO2 : Hid (Ows w1 w.heap.size (.slice (some ⟨w.heap.size, 0, none⟩) 0 0) []) := (Ows.lit w _ (Nat.le_refl _)).kept (only_kept ho') (fun k hk e => by cases hk; have : w.heap.size = b := e; omega)
 have HK2 : Hid (Kept (fun k => k = b) w w1) := (Kept.alloc (Kept.refl _ _) _).trans (only_kept ho')
 clear hc' ho'
 cases x1
 ·
  go_wp2_with fail
  go_loopw [3, 5] (fun v q wr => ∃ (k : Nat) (l : List Int), k <= 8 /\ q = .int .i64 k /\ l.length = k /\ Ows wr w.heap.size v l /\ Cur wr b a len cap /\ Kept (fun k => k = b) w wr) (fun _ q _ => 8 - (intOf q).toNat)
  case atStart => exact ⟨0, [], by omega, rfl, rfl, HO2.out, HC2.out, HK2.out⟩
  case round =>
   clear HO2 HC2 HK2
   obtain ⟨k, l, hk, rfl, hl, ho, hcu, hkk⟩ := hrel
   have HO : Hid (Ows wr w.heap.size u3 l) := ho
   have HC : Hid (Cur wr b a len cap) := hcu
   have HK : Hid (Kept (fun k => k = b) w wr) := hkk
   have HLL : Hid (l.length = k) := hl
   clear ho hcu hkk hl
   by_cases h8 : k < 8
   ·have hkz : (k : Int) < 8 := by omega
    go_wp2_with fail
    refine (below _ b a len cap 4 (by omega) (by omega) HC.out).mono ?_
    rintro e w2 ⟨⟨x2, rfl, hx0, hx1⟩, hc', ho'⟩
    have HC3 : Hid (Cur w2 b a len cap) := hc'
    have HO3 : Hid (Ows w2 w.heap.size u3 l) := HO.out.kept (only_kept ho') (fun k hk e => by have := (HO.out.lt k hk).1; have : k = b := e; omega)
    have HK3 : Hid (Kept (fun k => k = b) w w2) := HK.out.trans (only_kept ho')
    have hBs : w.heap.size <= w2.heap.size := HK3.out.size
    clear hc' ho'
    go_wp2_with (at_builtin; go_must (refine app_int _ rfl _ _ rfl w.heap.size u3 l x2 rfl rfl HO3.out hBs (by have := HLL.out; omega) ?_; intro g' cp w9 ho9 hk9 hg9))
    have HO9 : Hid (Ows w9 w.heap.size (.slice (some ⟨g', 0, none⟩) (l.length + 1) cp) (l ++ [x2])) := ho9
    have HC9 : Hid (Cur w9 b a len cap) := cur_kept HC3.out hk9 (fun e => by have := (HO3.out.lt b e).1; omega) (by
     rcases HLO.out with h0 | hl
     ·exact .inl h0
     ·exact .inr fun x hx e => by have := hl x hx; have := (HO3.out.lt _ e).1; omega)
    have HK9 : Hid (Kept (fun k => k = b) w w9) := by
     refine ⟨hk9.os.trans HK3.out.os, hk9.tape.trans HK3.out.tape, hk9.output.trans HK3.out.output, Nat.le_trans HK3.out.size hk9.size, fun k hk hn => ?_⟩
     rw [hk9.block k (Nat.lt_of_lt_of_le hk HK3.out.size) (fun e => by have := (HO3.out.lt k e).1; omega)]
     exact HK3.out.block k hk hn
    clear ho9 hk9 hg9
    go_wp2
    go_roundw
    case rel => exact ⟨k + 1, l ++ [x2], by omega, by go_num, by rw [List.length_append, HLL.out]; rfl, HO9.out, HC9.out, HK9.out⟩
    case measure => simp [intOf]; omega
   ·have hkz : ¬ (k : Int) < 8 := by omega
    have HP : Hid (EPost (.returned u3) wr w.heap.size) := epost HO.out (by have := HLL.out; omega)
    go_wp2
    go_ret
    exact ⟨HP.out, HK.out⟩
 ·
  go_wp2_with fail
  go_loopw [3, 5] (fun v q wr => ∃ (k : Nat) (l : List Int), k <= 7 /\ q = .int .i64 k /\ l.length = k /\ Ows wr w.heap.size v l /\ Cur wr b a len cap /\ Kept (fun k => k = b) w wr) (fun _ q _ => 7 - (intOf q).toNat)
  case atStart => exact ⟨0, [], by omega, rfl, rfl, HO2.out, HC2.out, HK2.out⟩
  case round =>
   clear HO2 HC2 HK2
   obtain ⟨k, l, hk, rfl, hl, ho, hcu, hkk⟩ := hrel
   have HO : Hid (Ows wr w.heap.size u3 l) := ho
   have HC : Hid (Cur wr b a len cap) := hcu
   have HK : Hid (Kept (fun k => k = b) w wr) := hkk
   have HLL : Hid (l.length = k) := hl
   clear ho hcu hkk hl
   by_cases h8 : k < 7
   ·have hkz : (k : Int) < 7 := by omega
    go_wp2_with fail
    refine (below _ b a len cap 4 (by omega) (by omega) HC.out).mono ?_
    rintro e w2 ⟨⟨x2, rfl, hx0, hx1⟩, hc', ho'⟩
    have HC3 : Hid (Cur w2 b a len cap) := hc'
    have HO3 : Hid (Ows w2 w.heap.size u3 l) := HO.out.kept (only_kept ho') (fun k hk e => by have := (HO.out.lt k hk).1; have : k = b := e; omega)
    have HK3 : Hid (Kept (fun k => k = b) w w2) := HK.out.trans (only_kept ho')
    have hBs : w.heap.size <= w2.heap.size := HK3.out.size
    clear hc' ho'
    go_wp2_with (at_builtin; go_must (refine app_int _ rfl _ _ rfl w.heap.size u3 l x2 rfl rfl HO3.out hBs (by have := HLL.out; omega) ?_; intro g' cp w9 ho9 hk9 hg9))
    have HO9 : Hid (Ows w9 w.heap.size (.slice (some ⟨g', 0, none⟩) (l.length + 1) cp) (l ++ [x2])) := ho9
    have HC9 : Hid (Cur w9 b a len cap) := cur_kept HC3.out hk9 (fun e => by have := (HO3.out.lt b e).1; omega) (by
     rcases HLO.out with h0 | hl
     ·exact .inl h0
     ·exact .inr fun x hx e => by have := hl x hx; have := (HO3.out.lt _ e).1; omega)
    have HK9 : Hid (Kept (fun k => k = b) w w9) := by
     refine ⟨hk9.os.trans HK3.out.os, hk9.tape.trans HK3.out.tape, hk9.output.trans HK3.out.output, Nat.le_trans HK3.out.size hk9.size, fun k hk hn => ?_⟩
     rw [hk9.block k (Nat.lt_of_lt_of_le hk HK3.out.size) (fun e => by have := (HO3.out.lt k e).1; omega)]
     exact HK3.out.block k hk hn
    clear ho9 hk9 hg9
    go_wp2
    go_roundw
    case rel => exact ⟨k + 1, l ++ [x2], by omega, by go_num, by rw [List.length_append, HLL.out]; rfl, HO9.out, HC9.out, HK9.out⟩
    case measure => simp [intOf]; omega
   ·have hkz : ¬ (k : Int) < 7 := by omega
    have HP : Hid (EPost (.returned u3) wr w.heap.size) := epost HO.out (by have := HLL.out; omega)
    go_wp2
    go_ret
    exact ⟨HP.out, HK.out⟩
def VPost2 (w : World) (e : Ending) (w' : World) : Prop :=
 ∃ (g c : Nat) (L : List Nd) (ge ce : Nat) (E : List Int), e = .returned (.tuple #[.slice (some ⟨g, 0, none⟩) L.length c, .slice (some ⟨ge, 0, none⟩) E.length ce]) /\ Nodes w' (some ⟨g, 0, none⟩) L /\ Below w.heap.size w w' /\ 1 <= L.length /\ L.length <= 81 /\ L.length <= c /\ Ints w' (some ⟨ge, 0, none⟩) E /\ (E.length = 7 \/ E.length = 8) /\ E.length <= ce
theorem drawValue2 (w : World) (a : Option Addr) (len cap : Nat) (hb : Bytes w a len) :
 Calls Tryz.prog 5 #[.slice a len cap] w (VPost2 w) := by
 have HB : Hid (Bytes w a len) := hb
 clear hb
 go_enter Tryz.func5, Tryz.ntmps5
 go_wp2_with fail
 refine (Dr4.new _ a len cap HB.out).mono ?_
 rintro e w1 ⟨rfl, hc, hb1⟩
 have HC : Hid (Cur w1 w.heap.size a len cap) := hc
 have HB1 : Hid (Below w.heap.size w w1) := hb1
 clear hc hb1
 go_wp2_with fail
 refine (openNodes _ w.heap.size a len cap HC.out (low_of HB.out)).mono ?_
 rintro e w2 ⟨g, c, L, rfl, hn, hbg, hgs, hcu, hk, h1, h2, h3⟩
 have HN2 : Hid (Nodes w2 (some ⟨g, 0, none⟩) L) := hn
 have HC2 : Hid (Cur w2 w.heap.size a len cap) := hcu
 have HB2 : Hid (Below w.heap.size w w2) := HB1.out.trans (hk.below (fun k (e : k = w.heap.size) => by omega) HB1.out.size)
 clear hn hcu hk hgs
 go_wp2_with fail
 refine (env2 _ w.heap.size a len cap HC2.out (low_of HB.out)).mono ?_
 rintro e w3 ⟨⟨ge, ce, E, rfl, hi, he, hce, _⟩, hk3⟩
 have HN3 : Hid (Nodes w3 (some ⟨g, 0, none⟩) L) := HN2.out.kept hk3 (fun x hx => by cases hx; show ¬ g = w.heap.size; omega)
 have HB3 : Hid (Below w.heap.size w w3) := HB2.out.trans (hk3.below (fun k (e : k = w.heap.size) => by omega) HB2.out.size)
 have HI3 : Hid (Ints w3 (some ⟨ge, 0, none⟩) E) := hi
 have HEL : Hid (E.length = 7 \/ E.length = 8) := he
 clear hk3 hi he
 go_wp2
 refine bodyPost_ret (v := .tuple #[.slice (some ⟨g, 0, none⟩) L.length c, .slice (some ⟨ge, 0, none⟩) E.length ce]) (by simp [results, Tryz.results5, go_sem]) rfl ?_
 exact ⟨g, c, L, ge, ce, E, rfl, HN3.out, HB3.out, h1, h2, h3, HI3.out, HEL.out, hce⟩
end Dw9
namespace Lw4
open Go.RowKit
open Dr0 Dr1
open Ws1 (ret_int ret_bool)
theorem lbig (w : World) (a : Option Addr) (len cap : Nat) (b : Bool) (hb : b = decide (1048576 < len)) :
 Calls Tryz.prog 4 #[.slice a len cap] w fun e w' => e = .returned (.bool b) /\ w' = w := by
 subst hb
 go_enter Tryz.func4, Tryz.ntmps4
 go_wp2
 go_ret
 exact ⟨ret_bool (by rw [Bool.eq_iff_iff]; simp; omega), rfl⟩
end Lw4
namespace Tx0
open Nd0 Pl1 Tm0 Tm1
def digs (n : Nat) : List UInt8 := if n = 0 then [] else digs (n / 10) ++ [UInt8.ofNat (48 + n % 10)]
termination_by n
decreasing_by omega
def dec (n : Nat) : List UInt8 := if n = 0 then [48] else digs n
theorem digs_zero : digs 0 = [] := by unfold digs; rfl
theorem digs_pos {n : Nat} (h : 0 < n) : digs n = digs (n / 10) ++ [UInt8.ofNat (48 + n % 10)] := by
 rw [digs.eq_def, if_neg (by omega)]
theorem dig_nat (d : Nat) (h : d < 10) : (UInt8.ofNat (48 + d)).toNat = 48 + d := by
 rw [UInt8.toNat_ofNat']; exact Nat.mod_eq_of_lt (by omega)
def isDig (c : UInt8) : Bool := decide (48 <= c.toNat /\ c.toNat <= 57)
theorem digs_all (n : Nat) : ∀ c ∈ digs n, isDig c = true := by
 induction n using Nat.strongRecOn with
 | ind n ih =>
   intro c hc
   by_cases h : n = 0
   ·subst h; rw [digs_zero] at hc; cases hc
   ·rw [digs_pos (by omega)] at hc
    rcases List.mem_append.1 hc with h1 | h1
    ·exact ih (n / 10) (by omega) c h1
    ·have e : c = UInt8.ofNat (48 + n % 10) := by simpa using h1
     subst e
     unfold isDig
     rw [dig_nat _ (by omega)]
     simp; omega
theorem digs_len (k : Nat) : ∀ n, n < 10 ^ k -> (digs n).length <= k := by
 induction k with
 | zero => intro n h; have e : n = 0 := by omega
           subst e; rw [digs_zero]; exact Nat.le_refl _
 | succ k ih =>
   intro n h
   by_cases e : n = 0
   ·subst e; rw [digs_zero]; exact Nat.zero_le _
   ·rw [digs_pos (by omega), List.length_append]
    have := ih (n / 10) (by rw [Nat.pow_succ] at h; omega)
    simp; omega
theorem digs_one {n : Nat} (h : 0 < n) : 1 <= (digs n).length := by rw [digs_pos h]; simp
theorem dec_all (n : Nat) : ∀ c ∈ dec n, isDig c = true := by
 unfold dec
 split
 ·intro c hc; have : c = 48 := by simpa using hc
  subst this; rfl
 ·exact digs_all n
theorem dec_len {n : Nat} (h : n < 10 ^ 9) : 1 <= (dec n).length /\ (dec n).length <= 9 := by
 unfold dec
 split
 ·simp
 ·exact ⟨digs_one (by omega), digs_len 9 n h⟩
def valL (s : List UInt8) : Nat := s.foldl (fun n c => 10 * n + (c.toNat - 48)) 0
theorem valL_snoc (s : List UInt8) (c : UInt8) : valL (s ++ [c]) = 10 * valL s + (c.toNat - 48) := by
 unfold valL; rw [List.foldl_append]; rfl
theorem val_digs (n : Nat) : valL (digs n) = n := by
 induction n using Nat.strongRecOn with
 | ind n ih =>
   by_cases h : n = 0
   ·subst h; rw [digs_zero]; rfl
   ·rw [digs_pos (by omega), valL_snoc, ih (n / 10) (by omega), dig_nat _ (by omega)]
    omega
theorem val_dec (n : Nat) : valL (dec n) = n := by
 unfold dec
 split
 ·rename_i h; subst h; rfl
 ·exact val_digs n
theorem val_lt (s : List UInt8) (h : ∀ c ∈ s, isDig c = true) : valL s < 10 ^ s.length := by
 have key : ∀ (k : Nat) (s : List UInt8), s.length = k -> (∀ c ∈ s, isDig c = true) -> valL s < 10 ^ k := by
  intro k
  induction k with
  | zero => intro s hs _; have : s = [] := List.eq_nil_of_length_eq_zero hs
            subst this; decide
  | succ k ih =>
    intro s hs hd
    have hne : s ≠ [] := by intro e; rw [e] at hs; simp at hs
    have e := (List.dropLast_concat_getLast hne).symm
    have hl : s.dropLast.length = k := by rw [List.length_dropLast]; omega
    have h1 := ih s.dropLast hl (fun c hc => hd c (List.dropLast_subset s hc))
    have h2 := hd _ (List.getLast_mem hne)
    rw [e, valL_snoc]
    unfold isDig at h2
    simp at h2
    rw [Nat.pow_succ]
    omega
 exact key _ s rfl h
def numL (s : List UInt8) : Option Nat :=
 if s.length = 0 \/ 9 < s.length then none
 else if s.all isDig then (if dec (valL s) = s then some (valL s) else none) else none
theorem num_dec {n : Nat} (h : n < 10 ^ 9) : numL (dec n) = some n := by
 have hl := dec_len h
 unfold numL
 rw [if_neg (by omega), if_pos (List.all_eq_true.2 (dec_all n)), val_dec, if_pos rfl]
theorem num_some {s : List UInt8} {n : Nat} (h : numL s = some n) : dec n = s /\ n < 10 ^ 9 /\ s.length <= 9 := by
 unfold numL at h
 split at h
 ·cases h
 ·rename_i hl
  split at h
  ·rename_i ha
   split at h
   ·rename_i hd
    cases h
    have hv := val_lt s (List.all_eq_true.1 ha)
    exact ⟨hd, Nat.lt_of_lt_of_le hv (Nat.pow_le_pow_right (by omega) (by omega)), by omega⟩
   ·cases h
  ·cases h
def twoL (head : UInt8) : List UInt8 -> Option (Nat × Nat)
 | [] => none
 | c :: w => if c = head then
  match w.dropWhile (fun x => x != 58) with
  | [] => none
  | _ :: y => match numL (w.takeWhile (fun x => x != 58)), numL y with
    | some a, some b => some (a, b)
    | _, _ => none
  else none
def wordsL : List (List UInt8) := [[97, 110, 100], [111, 114], [120, 111, 114], [97, 100, 100], [115, 117, 98], [109, 117, 108], [100, 105, 118], [114, 101, 109], [115, 104, 108], [115, 104, 114], [61], [60], [115, 60], [106, 111, 105, 110]]
def wNot : List UInt8 := [110, 111, 116]
def wSlice : List UInt8 := [115, 108, 105, 99, 101]
def wIf : List UInt8 := [105, 102]
def wAll : List UInt8 := [97, 108, 108]
def wSome : List UInt8 := [115, 111, 109, 101]
def headL (n : Nd) : List UInt8 :=
 if n.op = 2 then wNot
 else if n.op = 17 then wSlice ++ [32] ++ dec n.k.toNat ++ [32] ++ dec n.w.toNat
 else if n.op = 18 then wIf
 else if n.op = 19 then wAll ++ [32, 118] ++ dec n.k.toNat ++ [58] ++ dec n.b.toNat
 else if n.op = 20 then wSome ++ [32, 118] ++ dec n.k.toNat ++ [58] ++ dec n.b.toNat
 else wordsL.getD (n.op - 3).toNat []
def txt (ts : List (List UInt8)) (p : Int) : List UInt8 := ts.getD p.toNat []
def withParts (ts : List (List UInt8)) : List UInt8 -> List Int -> Option (List UInt8)
 | h, [] => some h
 | h, p :: ps => if txt ts p = [] then none else withParts ts (h ++ [32] ++ txt ts p) ps
def showN (n : Nd) (ts : List (List UInt8)) : List UInt8 :=
 if n.op = 0 then [35] ++ dec n.w.toNat ++ [58] ++ dec n.k.toNat
 else if n.op = 1 then [118] ++ dec n.k.toNat ++ [58] ++ dec n.w.toNat
 else match withParts ts (headL n) (parts n) with
  | none => []
  | some h => if 4000 < h.length + 2 then [] else [40] ++ h ++ [41]
def showTo (l : List Nd) : Nat -> List (List UInt8)
 | 0 => []
 | k + 1 => showTo l k ++ [showN (nth l k) (showTo l k)]
theorem showTo_length (l : List Nd) (k : Nat) : (showTo l k).length = k := by
 induction k with
 | zero => rfl
 | succ k ih => show (showTo l k ++ [_]).length = _; rw [List.length_append, ih]; rfl
def showL (l : List Nd) : List UInt8 := if termOk l then txt (showTo l l.length) ((l.length : Int) - 1) else []
def placeOf (t : List Nd) (n : Nd) : Option Nat := (List.range t.length).find? fun i => decide ((nth t i).op = n.op /\ (nth t i).w = n.w /\ (nth t i).k = n.k /\ (nth t i).a = n.a /\ (nth t i).b = n.b /\ (nth t i).c = n.c)
def putL (t : List Nd) (n : Nd) (p : Nat) : Except (Int × Nat) (List Nd × Nat) :=
 match placeOf t n with
 | some i => .ok (t, i)
 | none => if nodeOk (t ++ [n]) t.length then (if 80 < t.length + 1 then .error (4, p) else .ok (t ++ [n], t.length)) else .error (3, p)
def inWord (c : UInt8) : Bool := c != 32 && c != 41
def opOf (w : List UInt8) : Option (Int × Nat) :=
 match (List.range 14).find? (fun i => decide (wordsL.getD i [] = w)) with
 | some i => some (3 + (i : Int), 2)
 | none => if w = wNot then some (2, 1) else if w = wSlice then some (17, 1) else if w = wIf then some (18, 3) else if w = wAll then some (19, 1) else if w = wSome then some (20, 1) else none
structure Rd where
 p : Nat
 r : List UInt8
 t : List Nd
def Rd.word (st : Rd) : List UInt8 := st.r.takeWhile inWord
def Rd.past (st : Rd) : Rd := ⟨st.p + (st.r.takeWhile inWord).length, st.r.dropWhile inWord, st.t⟩
def Rd.blank (st : Rd) : Option Rd := match st.r with
 | [] => none
 | c :: r => if c = 32 then some ⟨st.p + 1, r, st.t⟩ else none
def numsL (op : Int) (st : Rd) : Option (Rd × Nd) :=
 if op = 17 then
  match st.blank with
  | none => none
  | some s1 => match numL s1.word with
    | none => none
    | some k => match s1.past.blank with
      | none => none
      | some s2 => match numL s2.word with
        | none => none
        | some w => some (s2.past, ⟨op, w, k, 0, 0, 0⟩)
 else if op = 19 \/ op = 20 then
  match st.blank with
  | none => none
  | some s1 => match twoL 118 s1.word with
    | none => none
    | some (k, b) => some (s1.past, ⟨op, 1, k, 0, b, 0⟩)
 else some (st, ⟨op, 0, 0, 0, 0, 0⟩)
def partsL (rd : Rd -> Except (Int × Nat) (Rd × Nat)) (p0 : Nat) : Nat -> Rd -> Except (Int × Nat) (Rd × List Nat)
 | 0, st => .ok (st, [])
 | c + 1, st => match st.blank with
   | none => .error (2, p0)
   | some s1 => match rd s1 with
     | .error e => .error e
     | .ok (s2, i) => match partsL rd p0 c s2 with
       | .error e => .error e
       | .ok (s3, is) => .ok (s3, i :: is)
def madeL (n : Nd) (t : List Nd) (is : List Nat) : Nd :=
 let a : Int := is.getD 0 0
 let b : Int := if 1 < is.length then (is.getD 1 0 : Nat) else n.b
 let c : Int := if 2 < is.length then (is.getD 2 0 : Nat) else 0
 let w : Int := if n.op = 17 \/ n.op = 19 \/ n.op = 20 then n.w
  else if 13 <= n.op /\ n.op <= 15 then 1
  else if n.op = 16 then width t a + width t b
  else if n.op = 18 then width t b
  else width t a
 ⟨n.op, w, n.k, a, b, c⟩
def innerL (rd : Rd -> Except (Int × Nat) (Rd × Nat)) (p0 : Nat) (st : Rd) : Except (Int × Nat) (Rd × Nat) :=
 match opOf st.word with
 | none => .error (2, p0)
 | some (op, count) => match numsL op st.past with
   | none => .error (2, p0)
   | some (s1, n) => match partsL rd p0 count s1 with
     | .error e => .error e
     | .ok (s2, is) => match s2.r with
       | [] => .error (2, p0)
       | c :: r => if c = 41 then
        match putL s2.t (madeL n s2.t is) p0 with
        | .error e => .error e
        | .ok (t, i) => .ok (⟨s2.p + 1, r, t⟩, i)
        else .error (2, p0)
def leafL (st : Rd) : Except (Int × Nat) (Rd × Nat) :=
 match twoL 35 st.word with
 | some (a, b) => match putL st.t ⟨0, a, b, 0, 0, 0⟩ st.p with
   | .error e => .error e
   | .ok (t, i) => .ok (⟨st.past.p, st.past.r, t⟩, i)
 | none => match twoL 118 st.word with
   | some (a, b) => match putL st.t ⟨1, b, a, 0, 0, 0⟩ st.p with
     | .error e => .error e
     | .ok (t, i) => .ok (⟨st.past.p, st.past.r, t⟩, i)
   | none => .error (2, st.p)
def opens (r : List UInt8) : Bool := match r with
 | [] => false
 | c :: _ => c == 40
def rdL : Nat -> Rd -> Except (Int × Nat) (Rd × Nat)
 | 0, _ => .error (2, 0)
 | f + 1, st => if opens st.r then innerL (rdL f) st.p ⟨st.p + 1, st.r.tail, st.t⟩ else leafL st
def readL (s : List UInt8) : List Nd × Int × Int :=
 if 4000 < s.length then ([], 1, 0)
 else match rdL (s.length + 1) ⟨0, s, []⟩ with
  | .error (c, p) => ([], c, p)
  | .ok (st, i) => if st.r.length = 0 then (st.t.take (i + 1), 0, 0) else ([], 5, st.p)
def canonL (l : List Nd) : List Nd := if (showL l).length = 0 then [] else (readL (showL l)).1
end Tx0
namespace Tx1
open Nd0 Pl1 Tm0 Tm1 Tx0
def Bd (q : List UInt8) : Prop := q = [] \/ ∃ c q', q = c :: q' /\ inWord c = false
theorem bd_nil : Bd [] := .inl rfl
theorem bd_blank (q : List UInt8) : Bd (32 :: q) := .inr ⟨32, q, rfl, rfl⟩
theorem bd_shut (q : List UInt8) : Bd (41 :: q) := .inr ⟨41, q, rfl, rfl⟩
theorem take_word {w q : List UInt8} (hw : ∀ c ∈ w, inWord c = true) (hq : Bd q) : (w ++ q).takeWhile inWord = w /\ (w ++ q).dropWhile inWord = q := by
 induction w with
 | nil =>
   rcases hq with rfl | ⟨c, q', rfl, hc⟩
   ·exact ⟨rfl, rfl⟩
   ·simp [hc]
 | cons c w ih =>
   have h1 := hw c (by simp)
   have := ih (fun d hd => hw d (by simp [hd]))
   simp [h1, this.1, this.2]
theorem word_all (r : List UInt8) : ∀ c ∈ r.takeWhile inWord, inWord c = true := by
 induction r with
 | nil => intro c hc; cases hc
 | cons d r ih =>
   intro c hc
   rw [List.takeWhile_cons] at hc
   split at hc
   ·rename_i h
    rcases List.mem_cons.1 hc with e | e
    ·subst e; exact h
    ·exact ih c e
   ·cases hc
theorem word_past (st : Rd) : st.r = st.word ++ st.past.r := (List.takeWhile_append_dropWhile (p := inWord) (l := st.r)).symm
theorem past_p (st : Rd) : st.past.p = st.p + st.word.length := rfl
theorem past_t (st : Rd) : st.past.t = st.t := rfl
theorem word_mk {w q : List UInt8} (p : Nat) (t : List Nd) (hw : ∀ c ∈ w, inWord c = true) (hq : Bd q) : (Rd.mk p (w ++ q) t).word = w /\ (Rd.mk p (w ++ q) t).past = ⟨p + w.length, q, t⟩ := by
 have h := take_word hw hq
 unfold Rd.word Rd.past
 simp only
 rw [h.1, h.2]
 exact ⟨rfl, rfl⟩
theorem blank_some {st s1 : Rd} (h : st.blank = some s1) : st.r = 32 :: s1.r /\ s1.p = st.p + 1 /\ s1.t = st.t := by
 unfold Rd.blank at h
 split at h
 ·cases h
 ·rename_i c r e
  split at h
  ·rename_i hc
   cases h
   subst hc
   exact ⟨e, rfl, rfl⟩
  ·cases h
theorem blank_mk (p : Nat) (q : List UInt8) (t : List Nd) : (Rd.mk p (32 :: q) t).blank = some ⟨p + 1, q, t⟩ := rfl
theorem nums_local {op : Int} {st s1 : Rd} {n : Nd} (h : numsL op st = some (s1, n)) :
 ∃ x, st.r = x ++ s1.r /\ s1.p = st.p + x.length /\ s1.t = st.t /\ (∀ y, Bd y -> Bd (x ++ y)) /\ ∀ p q t, Bd q -> numsL op ⟨p, x ++ q, t⟩ = some (⟨p + x.length, q, t⟩, n) := by
 unfold numsL at h
 split at h
 ·rename_i hop
  split at h
  ·cases h
  ·rename_i s2 h2
   split at h
   ·cases h
   ·rename_i k hk
    split at h
    ·cases h
    ·rename_i s3 h3
     split at h
     ·cases h
     ·rename_i w hw
      cases h
      obtain ⟨a1, a2, a3⟩ := blank_some h2
      obtain ⟨b1, b2, b3⟩ := blank_some h3
      have c1 := word_past s2
      have c2 := word_past s3
      refine ⟨32 :: (s2.word ++ 32 :: s3.word), ?_, ?_, ?_, ?_, ?_⟩
      ·rw [a1, c1, b1, c2]; simp
      ·rw [past_p, b2, past_p, a2]; simp; omega
      ·rw [past_t, b3, past_t, a3]
      ·intro y _; exact bd_blank _
      ·intro p q t hq
       have e1 : (32 :: (s2.word ++ 32 :: s3.word)) ++ q = 32 :: (s2.word ++ (32 :: (s3.word ++ q))) := by simp
       unfold numsL
       rw [if_pos hop, e1, blank_mk]
       simp only
       have m1 := word_mk (p + 1) t (word_all s2.r) (bd_blank (s3.word ++ q))
       have m2 := word_mk (p + 1 + s2.word.length + 1) t (word_all s3.r) hq
       have n1 : (Rd.mk (p + 1) (s2.word ++ 32 :: (s3.word ++ q)) t).word = s2.word := m1.1
       have n2 : (Rd.mk (p + 1) (s2.word ++ 32 :: (s3.word ++ q)) t).past = ⟨p + 1 + s2.word.length, 32 :: (s3.word ++ q), t⟩ := m1.2
       rw [n1, n2, hk, blank_mk]
       simp only
       have n3 : (Rd.mk (p + 1 + s2.word.length + 1) (s3.word ++ q) t).word = s3.word := m2.1
       have n4 : (Rd.mk (p + 1 + s2.word.length + 1) (s3.word ++ q) t).past = ⟨p + 1 + s2.word.length + 1 + s3.word.length, q, t⟩ := m2.2
       rw [n3, n4, hw]
       simp only
       congr 3
       simp; omega
 ·rename_i hop
  split at h
  ·rename_i hq2
   split at h
   ·cases h
   ·rename_i s2 h2
    split at h
    ·cases h
    ·rename_i k b hk
     cases h
     obtain ⟨a1, a2, a3⟩ := blank_some h2
     have c1 := word_past s2
     refine ⟨32 :: s2.word, ?_, ?_, ?_, ?_, ?_⟩
     ·rw [a1, c1]; rfl
     ·rw [past_p, a2]; simp; omega
     ·rw [past_t, a3]
     ·intro y _; exact bd_blank _
     ·intro p q t hq
      have e1 : (32 :: s2.word) ++ q = 32 :: (s2.word ++ q) := rfl
      have m1 := word_mk (p + 1) t (word_all s2.r) hq
      have n1 : (Rd.mk (p + 1) (s2.word ++ q) t).word = s2.word := m1.1
      have n2 : (Rd.mk (p + 1) (s2.word ++ q) t).past = ⟨p + 1 + s2.word.length, q, t⟩ := m1.2
      unfold numsL
      rw [if_neg hop, if_pos hq2, e1, blank_mk]
      simp only
      rw [n1, n2, hk]
      simp only
      congr 3
      simp; omega
  ·rename_i hq2
   cases h
   refine ⟨[], rfl, rfl, rfl, fun y hy => hy, fun p q t _ => ?_⟩
   unfold numsL
   rw [if_neg hop, if_neg hq2]
   rfl
theorem put_ok {t t' : List Nd} {n : Nd} {p i : Nat} (h : putL t n p = .ok (t', i)) : i < t'.length /\ ∃ m, t' = t ++ m := by
 unfold putL at h
 split at h
 ·rename_i j hj
  cases h
  have := List.mem_of_find?_eq_some hj
  exact ⟨List.mem_range.1 this, [], by simp⟩
 ·split at h
  ·split at h
   ·cases h
   ·cases h; exact ⟨by simp, _, rfl⟩
  ·cases h
end Tx1
namespace Tm8
open Nd0 Pl1 Tm0 Tm1 Tm2 Tm3
theorem markAll_flag (ps : List Int) : ∀ (bs : List Bool) (i : Nat), i < bs.length -> flag (markAll bs ps) i = (flag bs i || ps.any fun p => p.toNat == i) := by
 induction ps with
 | nil => intro bs i _; simp [markAll]
 | cons p ps ih =>
   intro bs i hi
   show flag (markAll (bs.set p.toNat true) ps) i = _
   rw [ih _ _ (by rw [List.length_set]; exact hi)]
   by_cases hp : p.toNat < bs.length
   ·rw [flag_set hp]
    by_cases e : p.toNat = i
    ·simp [e]
    ·have e' : (p.toNat == i) = false := by simpa using e
     rw [if_neg e, List.any_cons, e', Bool.false_or]
   ·have : bs.set p.toNat true = bs := List.set_eq_of_length_le (by omega)
    rw [this]
    have e' : (p.toNat == i) = false := by simp; omega
    rw [List.any_cons, e', Bool.false_or]
def Down (l : List Nd) : Prop := ∀ i, i < l.length -> ∀ p ∈ parts (nth l i), 0 <= p /\ p < (i : Int)
theorem down_of {l : List Nd} (h : termOk l = true) : Down l := by
 intro i hi p hp
 obtain ⟨j, hj, rfl⟩ := List.getElem_of_mem hp
 exact parts_ok (term_node h hi) j hj
theorem step_flag {l : List Nd} (bs : List Bool) (k i : Nat) (hi : i < bs.length) : flag (reachStep l bs k) i = (flag bs i || (flag bs k && (parts (nth l k)).any fun p => p.toNat == i)) := by
 unfold reachStep
 cases h : flag bs k
 ·simp
 ·rw [if_pos rfl, markAll_flag _ _ _ hi]; simp
theorem down_high {l : List Nd} (hD : Down l) : ∀ (k : Nat) (bs : List Bool), bs.length = l.length -> k <= l.length -> ∀ i, k <= i + 1 -> i < l.length -> flag (reachDown l k bs) i = flag bs i := by
 intro k
 induction k with
 | zero => intro bs _ _ i _ _; rfl
 | succ k ih =>
   intro bs hb hk i hi hl
   show flag (reachDown l k (reachStep l bs k)) i = _
   rw [ih _ (by rw [reachStep_length]; exact hb) (by omega) i (by omega) hl, step_flag _ _ _ (by omega)]
   have : ((parts (nth l k)).any fun p => p.toNat == i) = false := by
    rw [List.any_eq_false]
    intro p hp
    have := hD k (by omega) p hp
    simp; omega
   rw [this]; simp
theorem down_closed {l : List Nd} (hD : Down l) : ∀ (k : Nat) (bs : List Bool), bs.length = l.length -> k <= l.length -> (∀ i, k <= i -> i < l.length -> flag bs i = true -> ∀ p ∈ parts (nth l i), flag bs p.toNat = true) →
 ∀ i, i < l.length -> flag (reachDown l k bs) i = true -> ∀ p ∈ parts (nth l i), flag (reachDown l k bs) p.toNat = true := by
 intro k
 induction k with
 | zero => intro bs _ _ h i hi hf p hp; exact h i (by omega) hi hf p hp
 | succ k ih =>
   intro bs hb hk h
   refine ih (reachStep l bs k) (by rw [reachStep_length]; exact hb) (by omega) ?_
   intro i hki hi hf p hp
   have hpd := hD i hi p hp
   rw [step_flag _ _ _ (by omega)] at hf
   rw [step_flag _ _ _ (by omega)]
   have hna : ((parts (nth l k)).any fun q => q.toNat == i) = false := by
    rw [List.any_eq_false]
    intro q hq
    have := hD k (by omega) q hq
    simp; omega
   rw [hna, Bool.and_false, Bool.or_false] at hf
   by_cases e : i = k
   ·subst e
    rw [hf]
    have : ((parts (nth l i)).any fun q => q.toNat == p.toNat) = true := List.any_eq_true.2 ⟨p, hp, by simp⟩
    rw [this]; simp
   ·rw [h i (by omega) hi hf p hp]; simp
theorem init_flag (n i : Nat) (h : i < n) : flag (reachInit n) i = (i + 1 == n) := by simp [flag, reachInit, List.getD, h]
theorem reach_closed {l : List Nd} (hD : Down l) {i : Nat} (hi : i < l.length) (hf : flag (reachL l) i = true) {p : Int} (hp : p ∈ parts (nth l i)) : flag (reachL l) p.toNat = true :=
 down_closed hD l.length _ (reachInit_length _) (Nat.le_refl _) (fun i h1 h2 => by omega) i hi hf p hp
theorem down_more {l : List Nd} : ∀ (k : Nat) (bs : List Bool), bs.length = l.length -> ∀ i, i < l.length -> flag bs i = true -> flag (reachDown l k bs) i = true := by
 intro k
 induction k with
 | zero => intro bs _ i _ h; exact h
 | succ k ih =>
   intro bs hb i hi h
   refine ih (reachStep l bs k) (by rw [reachStep_length]; exact hb) i hi ?_
   rw [step_flag _ _ _ (by omega), h]; rfl
theorem reach_root {l : List Nd} (h : 1 <= l.length) : flag (reachL l) (l.length - 1) = true :=
 down_more l.length _ (reachInit_length _) _ (by omega) (by rw [init_flag _ _ (by omega)]; simp; omega)
theorem down_why {l : List Nd} (hD : Down l) : ∀ (k : Nat) (bs : List Bool), bs.length = l.length -> k <= l.length -> ∀ i, i < l.length -> flag (reachDown l k bs) i = true -> flag bs i = true \/ ∃ j, i < j /\ j < l.length /\ flag (reachDown l k bs) j = true /\ (i : Int) ∈ parts (nth l j) := by
 intro k
 induction k with
 | zero => intro bs _ _ i _ h; exact .inl h
 | succ k ih =>
   intro bs hb hk i hi h
   rcases ih (reachStep l bs k) (by rw [reachStep_length]; exact hb) (by omega) i hi h with h1 | h1
   ·rw [step_flag _ _ _ (by omega)] at h1
    simp only [Bool.or_eq_true, Bool.and_eq_true] at h1
    rcases h1 with h1 | ⟨h1, h2⟩
    ·exact .inl h1
    ·obtain ⟨p, hp, hpe⟩ := List.any_eq_true.1 h2
     have hd := hD k (by omega) p hp
     simp at hpe
     have hpi : p = (i : Int) := by omega
     subst hpi
     refine .inr ⟨k, by omega, by omega, ?_, hp⟩
     exact down_more k _ (by rw [reachStep_length]; exact hb) k (by omega) (by rw [step_flag _ _ _ (by omega), h1]; rfl)
   ·exact .inr h1
theorem reach_why {l : List Nd} (hD : Down l) {i : Nat} (hi : i < l.length) (hf : flag (reachL l) i = true) : i + 1 = l.length \/ ∃ j, i < j /\ j < l.length /\ flag (reachL l) j = true /\ (i : Int) ∈ parts (nth l j) := by
 rcases down_why hD l.length _ (reachInit_length _) (Nat.le_refl _) i hi hf with h | h
 ·rw [init_flag _ _ hi] at h; exact .inl (by simpa using h)
 ·exact .inr h
theorem reach_at (l : List Nd) : ∀ (k j : Nat) (h : j < (reachTo l k).length), ∃ x : Nat, (reachTo l k)[j] = (x : Int) /\ x < k /\ flag (reachL l) x = true /\ (reachTo l x).length = j := by
 intro k
 induction k with
 | zero => intro j h; simp [reachTo] at h
 | succ k ih =>
   intro j h
   have e := reachTo_succ l k
   cases hf : flag (reachL l) k
   ·rw [hf] at e
    simp only [Bool.false_eq_true, if_false] at e
    have h' : j < (reachTo l k).length := by rw [<- e]; exact h
    obtain ⟨x, h1, h2, h3, h4⟩ := ih j h'
    exact ⟨x, by simp only [e]; exact h1, by omega, h3, h4⟩
   ·rw [hf, if_pos rfl] at e
    have hlen : (reachTo l (k + 1)).length = (reachTo l k).length + 1 := by rw [e]; simp
    by_cases hj : j < (reachTo l k).length
    ·obtain ⟨x, h1, h2, h3, h4⟩ := ih j hj
     refine ⟨x, ?_, by omega, h3, h4⟩
     simp only [e]
     rw [List.getElem_append_left hj]; exact h1
    ·have hje : j = (reachTo l k).length := by omega
     refine ⟨k, ?_, by omega, hf, hje.symm⟩
     simp only [e, hje]
     rw [List.getElem_append_right (Nat.le_refl _)]
     simp
theorem reachTo_mono (l : List Nd) {a b : Nat} (h : a <= b) : (reachTo l a).length <= (reachTo l b).length := by
 induction b with
 | zero => have : a = 0 := by omega
           subst this; exact Nat.le_refl _
 | succ b ih =>
   by_cases e : a = b + 1
   ·subst e; exact Nat.le_refl _
   ·refine Nat.le_trans (ih (by omega)) ?_
    rw [reachTo_succ]; split
    ·simp
    ·exact Nat.le_refl _
theorem reachTo_lt (l : List Nd) {a b : Nat} (h : a < b) (hf : flag (reachL l) a = true) : (reachTo l a).length < (reachTo l b).length := by
 have h1 := reachTo_mono l (a := a + 1) (b := b) (by omega)
 rw [reachTo_succ, hf, if_pos rfl, List.length_append] at h1
 simp at h1; omega
theorem reachTo_inj (l : List Nd) {a b : Nat} (ha : flag (reachL l) a = true) (hb : flag (reachL l) b = true) (h : (reachTo l a).length = (reachTo l b).length) : a = b := by
 rcases Nat.lt_trichotomy a b with h1 | h1 | h1
 ·have := reachTo_lt l h1 ha; omega
 ·exact h1
 ·have := reachTo_lt l h1 hb; omega
theorem prune_map (l : List Nd) (k : Nat) : pruneTo l k = (reachTo l k).map fun p => remap l (nth l p.toNat) := by
 unfold pruneTo reachTo; rw [List.map_map]; rfl
end Tm8
end Go.Proofs.YtiaimhgfimhepaaGreatDoor
