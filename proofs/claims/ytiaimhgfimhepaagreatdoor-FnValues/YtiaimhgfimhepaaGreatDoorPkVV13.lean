import Derived.Test.YtiaimhgfimhepaaGreatDoorPkVV12
import Derived.Test.YtiaimhgfimhepaaGreatDoorPkVV7
namespace Go.Proofs.YtiaimhgfimhepaaGreatDoor
set_option maxRecDepth 100000
set_option maxHeartbeats 8000000
set_option linter.unusedVariables false
namespace Tx2
open Nd0 Pl1 Tm0 Tm1 Tm3 Tm8 Tx0 Tx1
def X (l : List Nd) (i : Nat) : List UInt8 := txt (showTo l l.length) (i : Int)
theorem txt_nat (ts : List (List UInt8)) (i : Nat) : txt ts (i : Int) = ts.getD i [] := by simp [txt]
theorem show_new (l : List Nd) (k : Nat) : txt (showTo l (k + 1)) (k : Int) = showN (nth l k) (showTo l k) := by
 rw [txt_nat]
 show (showTo l k ++ [_]).getD k [] = _
 rw [List.getD_eq_getElem?_getD, List.getElem?_append_right (by rw [showTo_length]; exact Nat.le_refl _), showTo_length]
 simp
theorem show_old (l : List Nd) {k i : Nat} (h : i < k) : txt (showTo l (k + 1)) (i : Int) = txt (showTo l k) (i : Int) := by
 rw [txt_nat, txt_nat]
 show (showTo l k ++ [_]).getD i [] = _
 rw [List.getD_eq_getElem?_getD, List.getElem?_append_left (by rw [showTo_length]; exact h), <- List.getD_eq_getElem?_getD]
theorem show_prefix (l : List Nd) {k n i : Nat} (hi : i < k) (hk : k <= n) : txt (showTo l n) (i : Int) = txt (showTo l k) (i : Int) := by
 induction n with
 | zero => omega
 | succ n ih =>
   by_cases e : k = n + 1
   ·subst e; rfl
   ·rw [<- ih (by omega)]; exact show_old l (by omega)
theorem with_congr {ts us : List (List UInt8)} : ∀ (ps : List Int) (h : List UInt8), (∀ p ∈ ps, txt ts p = txt us p) -> withParts ts h ps = withParts us h ps := by
 intro ps
 induction ps with
 | nil => intro h _; rfl
 | cons p ps ih =>
   intro h hp
   simp only [withParts]
   rw [hp p (by simp), ih _ (fun q hq => hp q (by simp [hq]))]
theorem showN_congr {ts us : List (List UInt8)} {n : Nd} (h : ∀ p ∈ parts n, txt ts p = txt us p) : showN n ts = showN n us := by
 unfold showN; rw [with_congr (parts n) (headL n) h]
theorem X_at {l : List Nd} (hD : Down l) {i : Nat} (hi : i < l.length) : X l i = showN (nth l i) (showTo l l.length) := by
 unfold X
 rw [show_prefix l (k := i + 1) (n := l.length) (by omega) (by omega), show_new]
 apply showN_congr
 intro p hp
 have hd := hD i hi p hp
 obtain ⟨y, rfl⟩ : ∃ y : Nat, p = (y : Int) := ⟨p.toNat, by omega⟩
 exact (show_prefix l (k := i) (n := l.length) (by omega) (by omega)).symm
theorem nth_app {t m : List Nd} {j : Nat} (h : j < t.length) : nth (t ++ m) j = nth t j := by
 unfold nth
 rw [List.getD_eq_getElem?_getD, List.getElem?_append_left h, <- List.getD_eq_getElem?_getD]
theorem nth_end (t : List Nd) (n : Nd) : nth (t ++ [n]) t.length = n := by
 unfold nth
 rw [List.getD_eq_getElem?_getD, List.getElem?_append_right (Nat.le_refl _)]
 simp
theorem showTo_app (t m : List Nd) : ∀ k, k <= t.length -> showTo (t ++ m) k = showTo t k := by
 intro k
 induction k with
 | zero => intro _; rfl
 | succ k ih =>
   intro hk
   show showTo (t ++ m) k ++ [_] = showTo t k ++ [_]
   rw [ih (by omega), nth_app (by omega)]
theorem X_app (t m : List Nd) {j : Nat} (h : j < t.length) : X (t ++ m) j = X t j := by
 unfold X
 rw [show_prefix (t ++ m) (k := t.length) (n := (t ++ m).length) h (by simp), showTo_app t m _ (Nat.le_refl _)]
def tails (ts : List (List UInt8)) (ps : List Int) : List UInt8 := ps.flatMap fun p => 32 :: txt ts p
theorem with_some {ts : List (List UInt8)} : ∀ (ps : List Int) (h r : List UInt8), withParts ts h ps = some r -> r = h ++ tails ts ps /\ ∀ p ∈ ps, txt ts p ≠ [] := by
 intro ps
 induction ps with
 | nil => intro h r e; cases e; exact ⟨by simp [tails], fun p hp => by cases hp⟩
 | cons p ps ih =>
   intro h r e
   simp only [withParts] at e
   split at e
   ·cases e
   ·rename_i hne
    obtain ⟨h1, h2⟩ := ih _ _ e
    refine ⟨?_, ?_⟩
    ·rw [h1]; simp [tails]
    ·intro q hq
     rcases List.mem_cons.1 hq with e1 | e1
     ·subst e1; exact hne
     ·exact h2 q e1
theorem showN_inner {n : Nd} {ts : List (List UInt8)} (h0 : n.op ≠ 0) (h1 : n.op ≠ 1) (h : showN n ts ≠ []) : showN n ts = 40 :: (headL n ++ (tails ts (parts n) ++ [41])) /\ (∀ p ∈ parts n, txt ts p ≠ []) /\ (headL n ++ tails ts (parts n)).length + 2 <= 4000 := by
 unfold showN at h ⊢
 rw [if_neg h0, if_neg h1] at h ⊢
 cases hw : withParts ts (headL n) (parts n) with
 | none => rw [hw] at h; exact absurd rfl h
 | some r =>
   rw [hw] at h
   obtain ⟨a1, a2⟩ := with_some _ _ _ hw
   subst a1
   simp only at h ⊢
   split at h
   ·exact absurd rfl h
   ·rename_i hl
    rw [if_neg hl]
    exact ⟨by simp, a2, by omega⟩
def hdr (n : Nd) : Nd :=
 if n.op = 17 then ⟨n.op, n.w, n.k, 0, 0, 0⟩ else if n.op = 19 \/ n.op = 20 then ⟨n.op, 1, n.k, 0, n.b, 0⟩ else ⟨n.op, 0, 0, 0, 0, 0⟩
theorem dig_word {c : UInt8} (h : isDig c = true) : inWord c = true /\ (c != 58) = true := by
 unfold isDig at h
 simp at h
 have h1 : c ≠ 32 := by intro e; subst e; simp at h
 have h2 : c ≠ 41 := by intro e; subst e; simp at h
 have h3 : c ≠ 58 := by intro e; subst e; simp at h
 unfold inWord
 simp [h1, h2, h3]
theorem dec_word (n : Nat) : ∀ c ∈ dec n, inWord c = true := fun c hc => (dig_word (dec_all n c hc)).1
theorem two_dec (h : UInt8) {a b : Nat} (ha : a < 10 ^ 9) (hb : b < 10 ^ 9) : twoL h (h :: (dec a ++ (58 :: dec b))) = some (a, b) := by
 have key : ∀ s : List UInt8, (∀ c ∈ s, (c != 58) = true) -> (s ++ (58 :: dec b)).takeWhile (fun x => x != 58) = s /\ (s ++ (58 :: dec b)).dropWhile (fun x => x != 58) = 58 :: dec b := by
  intro s
  induction s with
  | nil => intro _; exact ⟨rfl, rfl⟩
  | cons c s ih =>
    intro hs
    have h1 := hs c (by simp)
    have h2 := ih (fun d hd => hs d (by simp [hd]))
    rw [List.cons_append, List.takeWhile_cons, List.dropWhile_cons, h1, if_pos rfl, if_pos rfl, h2.1, h2.2]
    exact ⟨rfl, rfl⟩
 obtain ⟨k1, k2⟩ := key (dec a) (fun c hc => (dig_word (dec_all a c hc)).2)
 simp only [twoL, ↓reduceIte]
 rw [k1, k2, num_dec ha]
 simp only
 rw [num_dec hb]
theorem two_word (h : UInt8) (hh : inWord h = true) (a b : Nat) : ∀ c ∈ h :: (dec a ++ (58 :: dec b)), inWord c = true := by
 intro c hc
 rcases List.mem_cons.1 hc with e | e
 ·subst e; exact hh
 ·rcases List.mem_append.1 e with e | e
  ·exact dec_word a c e
  ·rcases List.mem_cons.1 e with e | e
   ·subst e; rfl
   ·exact dec_word b c e
theorem head_read {n : Nd} {ws : List Int} (hs : shapeOk n ws = true) (hw : 1 <= n.w /\ n.w <= 8) (hws : ∀ x ∈ ws, x <= 8) (h0 : n.op ≠ 0) (h1 : n.op ≠ 1) :
 ∃ w hd, headL n = w ++ hd /\ (∀ c ∈ w, inWord c = true) /\ opOf w = some (n.op, (parts n).length) /\ (∀ y, Bd y -> Bd (hd ++ y)) /\ ∀ p q t, Bd q -> numsL n.op ⟨p, hd ++ q, t⟩ = some (⟨p + hd.length, q, t⟩, hdr n) := by
 obtain ⟨op, w, k, a, b, c⟩ := n
 simp only at h0 h1 hw
 have hnil : ∀ y : List UInt8, Bd y -> Bd ([] ++ y) := fun y hy => hy
 have plain : ∀ op : Int, op ≠ 17 -> op ≠ 19 -> op ≠ 20 -> ∀ (p : Nat) (q : List UInt8) (t : List Nd), Bd q -> numsL op ⟨p, [] ++ q, t⟩ = some (⟨p + ([] : List UInt8).length, q, t⟩, hdr ⟨op, w, k, a, b, c⟩) := by
  intro op h17 h19 h20 p q t _
  unfold numsL hdr
  simp only
  rw [if_neg h17, if_neg (by omega), if_neg h17, if_neg (by omega)]
  rfl
 have hop : op = 2 \/ op = 3 \/ op = 4 \/ op = 5 \/ op = 6 \/ op = 7 \/ op = 8 \/ op = 9 \/ op = 10 \/ op = 11 \/ op = 12 \/ op = 13 \/ op = 14 \/ op = 15 \/ op = 16 \/ op = 17 \/ op = 18 \/ op = 19 \/ op = 20 := by
  unfold shapeOk at hs
  simp only at hs
  rw [if_neg h0, if_neg h1] at hs
  by_cases e : op = 2
  ·omega
  ·rw [if_neg e] at hs
   by_cases e : 3 <= op /\ op <= 12
   ·omega
   ·rw [if_neg e] at hs
    by_cases e : 13 <= op /\ op <= 15
    ·omega
    ·rw [if_neg e] at hs
     by_cases e : op = 16
     ·omega
     ·rw [if_neg e] at hs
      by_cases e : op = 17
      ·omega
      ·rw [if_neg e] at hs
       by_cases e : op = 18
       ·omega
       ·rw [if_neg e] at hs
        by_cases e : op = 19 \/ op = 20
        ·omega
        ·rw [if_neg e] at hs; cases hs
 rcases hop with e | e | e | e | e | e | e | e | e | e | e | e | e | e | e | e | e | e | e <;> subst e
 ·exact ⟨wNot, [], by simp [headL], by decide, rfl, hnil, plain 2 (by omega) (by omega) (by omega)⟩
 ·exact ⟨[97, 110, 100], [], by simp [headL, wordsL], by decide, rfl, hnil, plain 3 (by omega) (by omega) (by omega)⟩
 ·exact ⟨[111, 114], [], by simp [headL, wordsL], by decide, rfl, hnil, plain 4 (by omega) (by omega) (by omega)⟩
 ·exact ⟨[120, 111, 114], [], by simp [headL, wordsL], by decide, rfl, hnil, plain 5 (by omega) (by omega) (by omega)⟩
 ·exact ⟨[97, 100, 100], [], by simp [headL, wordsL], by decide, rfl, hnil, plain 6 (by omega) (by omega) (by omega)⟩
 ·exact ⟨[115, 117, 98], [], by simp [headL, wordsL], by decide, rfl, hnil, plain 7 (by omega) (by omega) (by omega)⟩
 ·exact ⟨[109, 117, 108], [], by simp [headL, wordsL], by decide, rfl, hnil, plain 8 (by omega) (by omega) (by omega)⟩
 ·exact ⟨[100, 105, 118], [], by simp [headL, wordsL], by decide, rfl, hnil, plain 9 (by omega) (by omega) (by omega)⟩
 ·exact ⟨[114, 101, 109], [], by simp [headL, wordsL], by decide, rfl, hnil, plain 10 (by omega) (by omega) (by omega)⟩
 ·exact ⟨[115, 104, 108], [], by simp [headL, wordsL], by decide, rfl, hnil, plain 11 (by omega) (by omega) (by omega)⟩
 ·exact ⟨[115, 104, 114], [], by simp [headL, wordsL], by decide, rfl, hnil, plain 12 (by omega) (by omega) (by omega)⟩
 ·exact ⟨[61], [], by simp [headL, wordsL], by decide, rfl, hnil, plain 13 (by omega) (by omega) (by omega)⟩
 ·exact ⟨[60], [], by simp [headL, wordsL], by decide, rfl, hnil, plain 14 (by omega) (by omega) (by omega)⟩
 ·exact ⟨[115, 60], [], by simp [headL, wordsL], by decide, rfl, hnil, plain 15 (by omega) (by omega) (by omega)⟩
 ·exact ⟨[106, 111, 105, 110], [], by simp [headL, wordsL], by decide, rfl, hnil, plain 16 (by omega) (by omega) (by omega)⟩
 ·have hk : 0 <= k /\ k <= 8 := by
   have hs' : decide (0 <= k /\ k <= ws.getD 0 0 - w /\ b = 0 /\ c = 0) = true := hs
   replace hs := of_decide_eq_true hs'
   have hx : ws.getD 0 0 <= 8 := by
    cases ws with
    | nil => simp
    | cons x ws => simpa using hws x (by simp)
   omega
  refine ⟨wSlice, 32 :: (dec k.toNat ++ (32 :: dec w.toNat)), by simp [headL], by decide, rfl, fun y _ => bd_blank _, ?_⟩
  intro p q t hq
  have e1 : (32 :: (dec k.toNat ++ (32 :: dec w.toNat))) ++ q = 32 :: (dec k.toNat ++ (32 :: (dec w.toNat ++ q))) := by simp
  have m1 := word_mk (p + 1) t (dec_word k.toNat) (bd_blank (dec w.toNat ++ q))
  have m2 := word_mk (p + 1 + (dec k.toNat).length + 1) t (dec_word w.toNat) hq
  unfold numsL hdr
  rw [if_pos rfl, e1, blank_mk]
  simp only
  rw [m1.1, m1.2, num_dec (by omega), blank_mk]
  simp only
  rw [m2.1, m2.2, num_dec (by omega)]
  simp only [if_true]
  have ek : ((k.toNat : Nat) : Int) = k := by omega
  have ew : ((w.toNat : Nat) : Int) = w := by omega
  rw [ek, ew]
  congr 3
  simp; omega
 ·exact ⟨wIf, [], by simp [headL], by decide, rfl, hnil, plain 18 (by omega) (by omega) (by omega)⟩
 ·have hk : 0 <= k /\ k <= 7 /\ 1 <= b /\ b <= 8 := by
   have hs' : decide (0 <= k /\ k <= 7 /\ 1 <= b /\ b <= 8 /\ ws.getD 0 0 = 1 /\ w = 1 /\ c = 0) = true := hs
   replace hs := of_decide_eq_true hs'
   omega
  refine ⟨wAll, 32 :: (118 :: (dec k.toNat ++ (58 :: dec b.toNat))), by simp [headL], by decide, rfl, fun y _ => bd_blank _, ?_⟩
  intro p q t hq
  have e1 : (32 :: (118 :: (dec k.toNat ++ (58 :: dec b.toNat)))) ++ q = 32 :: ((118 :: (dec k.toNat ++ (58 :: dec b.toNat))) ++ q) := rfl
  have m1 := word_mk (p + 1) t (two_word 118 rfl k.toNat b.toNat) hq
  show numsL 19 _ = some (_, (⟨19, 1, k, 0, b, 0⟩ : Nd))
  unfold numsL
  rw [if_neg (by decide), if_pos (by decide), e1, blank_mk]
  simp only
  rw [m1.1, m1.2, two_dec 118 (by omega) (by omega)]
  simp only
  have ek : ((k.toNat : Nat) : Int) = k := by omega
  have eb : ((b.toNat : Nat) : Int) = b := by omega
  rw [ek, eb]
  congr 3
  simp; omega
 ·have hk : 0 <= k /\ k <= 7 /\ 1 <= b /\ b <= 8 := by
   have hs' : decide (0 <= k /\ k <= 7 /\ 1 <= b /\ b <= 8 /\ ws.getD 0 0 = 1 /\ w = 1 /\ c = 0) = true := hs
   replace hs := of_decide_eq_true hs'
   omega
  refine ⟨wSome, 32 :: (118 :: (dec k.toNat ++ (58 :: dec b.toNat))), by simp [headL], by decide, rfl, fun y _ => bd_blank _, ?_⟩
  intro p q t hq
  have e1 : (32 :: (118 :: (dec k.toNat ++ (58 :: dec b.toNat)))) ++ q = 32 :: ((118 :: (dec k.toNat ++ (58 :: dec b.toNat))) ++ q) := rfl
  have m1 := word_mk (p + 1) t (two_word 118 rfl k.toNat b.toNat) hq
  show numsL 20 _ = some (_, (⟨20, 1, k, 0, b, 0⟩ : Nd))
  unfold numsL
  rw [if_neg (by decide), if_pos (by decide), e1, blank_mk]
  simp only
  rw [m1.1, m1.2, two_dec 118 (by omega) (by omega)]
  simp only
  have ek : ((k.toNat : Nat) : Int) = k := by omega
  have eb : ((b.toNat : Nat) : Int) = b := by omega
  rw [ek, eb]
  congr 3
  simp; omega
def reparts (n : Nd) (is : List Nat) : Nd :=
 ⟨n.op, n.w, n.k, if 0 < is.length then (is.getD 0 0 : Nat) else n.a, if 1 < is.length then (is.getD 1 0 : Nat) else n.b, if 2 < is.length then (is.getD 2 0 : Nat) else n.c⟩
theorem made_eq {n : Nd} {ws : List Int} {t : List Nd} {is : List Nat} (hs : shapeOk n ws = true) (hl : is.length = (parts n).length) (hwl : is.map (fun (i : Nat) => width t (i : Int)) = ws) (h0 : n.op ≠ 0) (h1 : n.op ≠ 1) : madeL (hdr n) t is = reparts n is := by
 obtain ⟨op, w, k, a, b, c⟩ := n
 simp only at h0 h1
 unfold shapeOk at hs
 simp only at hs
 rw [if_neg h0, if_neg h1] at hs
 have one : op = 2 \/ op = 17 \/ op = 19 \/ op = 20 -> ∃ i, is = [i] := by
  intro h
  rw [parts_one h] at hl
  match is, hl with
  | [i], _ => exact ⟨i, rfl⟩
 have two : 3 <= op /\ op <= 16 -> ∃ i j, is = [i, j] := by
  intro h
  rw [parts_two h] at hl
  match is, hl with
  | [i, j], _ => exact ⟨i, j, rfl⟩
 by_cases e : op = 2
 ·subst e
  obtain ⟨i, rfl⟩ := one (by omega)
  rw [if_pos rfl] at hs
  subst hwl
  simp at hs
  unfold madeL hdr reparts
  simp
  omega
 rw [if_neg e] at hs
 by_cases e : 3 <= op /\ op <= 12
 ·obtain ⟨i, j, rfl⟩ := two (by omega)
  rw [if_pos e] at hs
  subst hwl
  simp at hs
  have e17 : ¬ op = 17 := by omega
  have eq : ¬ (op = 19 \/ op = 20) := by omega
  have e3 : ¬ (op = 17 \/ op = 19 \/ op = 20) := by omega
  have e4 : ¬ (13 <= op /\ op <= 15) := by omega
  have e5 : ¬ op = 16 := by omega
  have e6 : ¬ op = 18 := by omega
  unfold madeL hdr reparts
  simp only [if_neg e17, if_neg eq, if_neg e3, if_neg e4, if_neg e5, if_neg e6]
  simp
  omega
 rw [if_neg e] at hs
 by_cases e : 13 <= op /\ op <= 15
 ·obtain ⟨i, j, rfl⟩ := two (by omega)
  rw [if_pos e] at hs
  subst hwl
  simp at hs
  have e17 : ¬ op = 17 := by omega
  have eq : ¬ (op = 19 \/ op = 20) := by omega
  have e3 : ¬ (op = 17 \/ op = 19 \/ op = 20) := by omega
  unfold madeL hdr reparts
  simp only [if_neg e17, if_neg eq, if_neg e3, if_pos e]
  simp
  omega
 rw [if_neg e] at hs
 by_cases e : op = 16
 ·subst e
  obtain ⟨i, j, rfl⟩ := two (by omega)
  rw [if_pos rfl] at hs
  subst hwl
  simp at hs
  unfold madeL hdr reparts
  simp
  omega
 rw [if_neg e] at hs
 by_cases e : op = 17
 ·subst e
  obtain ⟨i, rfl⟩ := one (by omega)
  rw [if_pos rfl] at hs
  subst hwl
  simp at hs
  unfold madeL hdr reparts
  simp
  omega
 rw [if_neg e] at hs
 by_cases e : op = 18
 ·subst e
  rw [parts_three rfl] at hl
  obtain ⟨i, j, m, rfl⟩ : ∃ i j m, is = [i, j, m] := by
   match is, hl with
   | [i, j, m], _ => exact ⟨i, j, m, rfl⟩
  rw [if_pos rfl] at hs
  subst hwl
  simp at hs
  unfold madeL hdr reparts
  simp
  omega
 rw [if_neg e] at hs
 by_cases e : op = 19 \/ op = 20
 ·obtain ⟨i, rfl⟩ := one (by omega)
  rw [if_pos e] at hs
  subst hwl
  simp at hs
  have e17 : ¬ op = 17 := by omega
  have e3 : op = 17 \/ op = 19 \/ op = 20 := by omega
  unfold madeL hdr reparts
  simp only [if_neg e17, if_pos e, if_pos e3]
  simp
  omega
 rw [if_neg e] at hs
 cases hs
end Tx2
namespace Tm7
open Nd0 Pl1 Tm0 Tm1 Tm4
open Go.RowKit
end Tm7
namespace Tm12
open Nd0 Pl1 Tm0 Tm1 Tm4 Tm7
end Tm12
namespace Tx3
open Nd0 Pl1 Tm0 Tm1 Tm3 Tm8 Tx0 Tx1 Tx2
structure Neat (t : List Nd) : Prop where
 ok : ∀ k, k < t.length -> nodeOk t k = true
 one : ∀ j k, j < t.length -> k < t.length -> nth t j = nth t k -> j = k
theorem Neat.down {t : List Nd} (h : Neat t) : Down t := by
 intro i hi p hp
 obtain ⟨j, hj, rfl⟩ := List.getElem_of_mem hp
 exact parts_ok (h.ok i hi) j hj
theorem place_some {t : List Nd} {n : Nd} {j : Nat} (h : placeOf t n = some j) : j < t.length /\ nth t j = n := by
 have h1 := List.mem_of_find?_eq_some h
 have h2 := List.find?_some h
 simp only [decide_eq_true_eq] at h2
 exact ⟨List.mem_range.1 h1, Nd.ext' h2⟩
theorem place_none {t : List Nd} {n : Nd} (h : placeOf t n = none) {j : Nat} (hj : j < t.length) : nth t j ≠ n := by
 intro e
 have := List.find?_eq_none.1 h j (List.mem_range.2 hj)
 simp [e] at this
theorem place_at {t : List Nd} (hG : Neat t) {j : Nat} (hj : j < t.length) : placeOf t (nth t j) = some j := by
 cases h : placeOf t (nth t j) with
 | none => exact absurd rfl (place_none h hj)
 | some i =>
   obtain ⟨h1, h2⟩ := place_some h
   rw [hG.one i j h1 hj h2]
theorem bd_tails (ts : List (List UInt8)) (ps : List Int) {y : List UInt8} (h : Bd y) : Bd (tails ts ps ++ y) := by
 cases ps with
 | nil => exact h
 | cons p ps => exact bd_blank _
theorem widths_le {l : List Nd} {i : Nat} (hok : ∀ k, k < i -> nodeOk l k = true) (h : nodeOk l i = true) : ∀ x ∈ (parts (nth l i)).map (width l), x <= 8 := by
 intro x hx
 obtain ⟨p, hp, rfl⟩ := List.mem_map.1 hx
 obtain ⟨j, hj, rfl⟩ := List.getElem_of_mem hp
 have := parts_ok h j hj
 exact (node_width (hok (parts (nth l i))[j].toNat (by omega))).2
theorem node_read {l : List Nd} (hN : ∀ k, k < l.length -> nodeOk l k = true) (hD : Down l) {i : Nat} (hi : i < l.length) (hX : X l i ≠ []) {t t2 : List Nd} {is : List Nat} {g : Nat}
 (hl : is.length = (parts (nth l i)).length) (hw : is.map (fun (i : Nat) => width t2 (i : Int)) = (parts (nth l i)).map (width l))
 (hp : ∀ p0 p q, Bd q -> partsL (rdL g) p0 (parts (nth l i)).length ⟨p, tails (showTo l l.length) (parts (nth l i)) ++ q, t⟩ = .ok (⟨p + (tails (showTo l l.length) (parts (nth l i))).length, q, t2⟩, is))
 (p : Nat) (q : List UInt8) (hq : Bd q \/ opens (X l i) = true) :
 rdL (g + 1) ⟨p, X l i ++ q, t⟩ = match putL t2 (reparts (nth l i) is) p with
  | .error e => .error e
  | .ok (t3, j) => .ok (⟨p + (X l i).length, q, t3⟩, j) := by
 have hok := hN i hi
 have hXa := X_at hD hi
 have hsh : shapeOk (nth l i) ((parts (nth l i)).map (width l)) = true := by
  simp only [nodeOk, Bool.and_eq_true] at hok; exact hok.2
 have hwd := node_width hok
 have hle := widths_le (fun k hk => hN k (by omega)) hok
 generalize nth l i = n at hl hw hp hXa hsh hwd hle ⊢
 by_cases h0 : n.op = 0
 ·have hpn : parts n = [] := parts_none (by omega) (by omega) (by omega)
  rw [hpn] at hl hp
  have his : is = [] := List.eq_nil_of_length_eq_zero hl
  subst his
  have e2 : t = t2 := by
   have := hp 0 0 [] bd_nil
   simp only [List.length_nil, partsL] at this
   injection this with this
   injection this with this _
   injection this
  subst e2
  have hs2 : (wok n.w n.k && decide (n.a = 0 /\ n.b = 0 /\ n.c = 0)) = true := by unfold shapeOk at hsh; rw [if_pos h0] at hsh; exact hsh
  simp only [Bool.and_eq_true, decide_eq_true_eq] at hs2
  obtain ⟨hwk, ha, hb, hc⟩ := hs2
  have hk := wok_lt hwk
  have hx : X l i = 35 :: (dec n.w.toNat ++ (58 :: dec n.k.toNat)) := by rw [hXa]; unfold showN; rw [if_pos h0]; simp
  have hne : reparts n [] = ⟨0, ((n.w.toNat : Nat) : Int), ((n.k.toNat : Nat) : Int), 0, 0, 0⟩ := by
   unfold reparts; simp only [List.length_nil]
   apply Nd.ext'; simp only
   refine ⟨h0, by omega, by omega, ?_, ?_, ?_⟩
   ·rw [if_neg (by omega)]; exact ha
   ·rw [if_neg (by omega)]; exact hb
   ·rw [if_neg (by omega)]; exact hc
  rw [hx] at hq ⊢
  have hbd : Bd q := by rcases hq with h | h
                        ·exact h
                        ·cases h
  have m1 := word_mk p t (two_word 35 rfl n.w.toNat n.k.toNat) hbd
  have ho : opens ((35 :: (dec n.w.toNat ++ (58 :: dec n.k.toNat))) ++ q) = false := rfl
  simp only [rdL]
  rw [ho]
  simp only [Bool.false_eq_true, if_false]
  unfold leafL
  rw [m1.1, m1.2, two_dec 35 (by omega) (by omega), hne]
  all_goals (simp only; rcases putL t ⟨0, ((n.w.toNat : Nat) : Int), ((n.k.toNat : Nat) : Int), 0, 0, 0⟩ p with e | ⟨t3, j⟩ <;> rfl)
 by_cases h1 : n.op = 1
 ·have hpn : parts n = [] := parts_none (by omega) (by omega) (by omega)
  rw [hpn] at hl hp
  have his : is = [] := List.eq_nil_of_length_eq_zero hl
  subst his
  have e2 : t = t2 := by
   have := hp 0 0 [] bd_nil
   simp only [List.length_nil, partsL] at this
   injection this with this
   injection this with this _
   injection this
  subst e2
  have hs2 : decide (0 <= n.k /\ n.k <= 7 /\ n.a = 0 /\ n.b = 0 /\ n.c = 0) = true := by unfold shapeOk at hsh; rw [if_neg h0, if_pos h1] at hsh; exact hsh
  simp only [decide_eq_true_eq] at hs2
  obtain ⟨hk1, hk2, ha, hb, hc⟩ := hs2
  have hx : X l i = 118 :: (dec n.k.toNat ++ (58 :: dec n.w.toNat)) := by rw [hXa]; unfold showN; rw [if_neg h0, if_pos h1]; simp
  have hne : reparts n [] = ⟨1, ((n.w.toNat : Nat) : Int), ((n.k.toNat : Nat) : Int), 0, 0, 0⟩ := by
   unfold reparts; simp only [List.length_nil]
   apply Nd.ext'; simp only
   refine ⟨h1, by omega, by omega, ?_, ?_, ?_⟩
   ·rw [if_neg (by omega)]; exact ha
   ·rw [if_neg (by omega)]; exact hb
   ·rw [if_neg (by omega)]; exact hc
  rw [hx] at hq ⊢
  have hbd : Bd q := by rcases hq with h | h
                        ·exact h
                        ·cases h
  have m1 := word_mk p t (two_word 118 rfl n.k.toNat n.w.toNat) hbd
  have ho : opens ((118 :: (dec n.k.toNat ++ (58 :: dec n.w.toNat))) ++ q) = false := rfl
  have hno : twoL 35 (118 :: (dec n.k.toNat ++ (58 :: dec n.w.toNat))) = none := rfl
  simp only [rdL]
  rw [ho]
  simp only [Bool.false_eq_true, if_false]
  unfold leafL
  rw [m1.1, m1.2, hno]
  simp only
  rw [two_dec 118 (by omega) (by omega), hne]
  all_goals (simp only; rcases putL t ⟨1, ((n.w.toNat : Nat) : Int), ((n.k.toNat : Nat) : Int), 0, 0, 0⟩ p with e | ⟨t3, j⟩ <;> rfl)
 ·rw [hXa] at hX
  obtain ⟨b1, b2, b3⟩ := showN_inner h0 h1 hX
  rw [hXa, b1]
  obtain ⟨w, hd, c1, c2, c3, c4, c5⟩ := head_read hsh hwd hle h0 h1
  have hm : madeL (hdr n) t2 is = reparts n is := made_eq hsh hl hw h0 h1
  have e1 : (40 :: (headL n ++ (tails (showTo l l.length) (parts n) ++ [41]))) ++ q = 40 :: (w ++ (hd ++ (tails (showTo l l.length) (parts n) ++ (41 :: q)))) := by rw [c1]; simp
  rw [e1]
  have ho : opens (40 :: (w ++ (hd ++ (tails (showTo l l.length) (parts n) ++ (41 :: q))))) = true := rfl
  simp only [rdL]
  rw [ho, if_pos rfl]
  have hb2 : Bd (tails (showTo l l.length) (parts n) ++ (41 :: q)) := bd_tails _ _ (bd_shut q)
  have m1 := word_mk (p + 1) t c2 (c4 _ hb2)
  have k1 := c5 (p + 1 + w.length) (tails (showTo l l.length) (parts n) ++ (41 :: q)) t hb2
  have k2 := hp p (p + 1 + w.length + hd.length) (41 :: q) (bd_shut q)
  unfold innerL
  simp only [List.tail_cons]
  rw [m1.1, m1.2, c3]
  simp only
  rw [k1]
  simp only
  rw [k2]
  simp only [if_true]
  rw [hm]
  have e3 : p + 1 + w.length + hd.length + (tails (showTo l l.length) (parts n)).length + 1 = p + (40 :: (headL n ++ (tails (showTo l l.length) (parts n) ++ [41]))).length := by
   rw [c1]; simp; omega
  rw [e3]
  all_goals (rcases putL t2 (reparts n is) p with e | ⟨t3, j⟩ <;> rfl)
theorem parts_seq {g : Nat} {t : List Nd} (ts : List (List UInt8)) (p0 : Nat) : ∀ (ps : List Int) (is : List Nat), is.length = ps.length →
 (∀ x ∈ ps.zip is, ∀ p q, Bd q -> rdL g ⟨p, txt ts x.1 ++ q, t⟩ = .ok (⟨p + (txt ts x.1).length, q, t⟩, x.2)) →
 ∀ p q, Bd q -> partsL (rdL g) p0 ps.length ⟨p, tails ts ps ++ q, t⟩ = .ok (⟨p + (tails ts ps).length, q, t⟩, is) := by
 intro ps
 induction ps with
 | nil =>
   intro is hl _ p q _
   have his : is = [] := List.eq_nil_of_length_eq_zero hl
   subst his
   rfl
 | cons a ps ih =>
   intro is hl h p q hq
   match is, hl with
   | i :: is, hl =>
     have h1 := h (a, i) (by simp) (p + 1) (tails ts ps ++ q) (bd_tails ts ps hq)
     have h2 := ih is (by simpa using hl) (fun x hx => h x (by simp [hx])) (p + 1 + (txt ts a).length) q hq
     have e1 : tails ts (a :: ps) ++ q = 32 :: (txt ts a ++ (tails ts ps ++ q)) := by simp [tails]
     rw [e1, List.length_cons]
     simp only [partsL]
     rw [blank_mk]
     simp only
     rw [h1]
     simp only
     rw [h2]
     simp only
     congr 3
     simp [tails]; omega
theorem X_len {l : List Nd} (hN : ∀ k, k < l.length -> nodeOk l k = true) (hD : Down l) {i : Nat} (hi : i < l.length) : (X l i).length <= 4000 := by
 have hok := hN i hi
 have hXa := X_at hD hi
 have hsh : shapeOk (nth l i) ((parts (nth l i)).map (width l)) = true := by
  simp only [nodeOk, Bool.and_eq_true] at hok; exact hok.2
 have hwd := node_width hok
 generalize nth l i = n at hXa hsh hwd
 by_cases h0 : n.op = 0
 ·have hs2 : (wok n.w n.k && decide (n.a = 0 /\ n.b = 0 /\ n.c = 0)) = true := by unfold shapeOk at hsh; rw [if_pos h0] at hsh; exact hsh
  simp only [Bool.and_eq_true] at hs2
  have hk := wok_lt hs2.1
  have d1 := dec_len (n := n.w.toNat) (by omega)
  have d2 := dec_len (n := n.k.toNat) (by omega)
  rw [hXa]; unfold showN; rw [if_pos h0]; simp; omega
 by_cases h1 : n.op = 1
 ·have hs2 : decide (0 <= n.k /\ n.k <= 7 /\ n.a = 0 /\ n.b = 0 /\ n.c = 0) = true := by unfold shapeOk at hsh; rw [if_neg h0, if_pos h1] at hsh; exact hsh
  simp only [decide_eq_true_eq] at hs2
  have d1 := dec_len (n := n.w.toNat) (by omega)
  have d2 := dec_len (n := n.k.toNat) (by omega)
  rw [hXa]; unfold showN; rw [if_neg h0, if_pos h1]; simp; omega
 ·by_cases hX : showN n (showTo l l.length) = []
  ·rw [hXa, hX]; simp
  ·obtain ⟨b1, b2, b3⟩ := showN_inner h0 h1 hX
   rw [hXa, b1]
   simp at b3 ⊢; omega
theorem part_text {l : List Nd} (hD : Down l) {i : Nat} (hi : i < l.length) (hX : X l i ≠ []) {p : Int} (hp : p ∈ parts (nth l i)) : txt (showTo l l.length) p = X l p.toNat /\ X l p.toNat ≠ [] /\ (X l p.toNat).length + 1 < (X l i).length /\ opens (X l i) = true := by
 have hd := hD i hi p hp
 have hXa := X_at hD hi
 have hpe : txt (showTo l l.length) p = X l p.toNat := by
  unfold X; congr 1; omega
 have h0 : (nth l i).op ≠ 0 := by
  intro h; rw [parts_none (by omega) (by omega) (by omega)] at hp; cases hp
 have h1 : (nth l i).op ≠ 1 := by
  intro h; rw [parts_none (by omega) (by omega) (by omega)] at hp; cases hp
 rw [hXa] at hX
 obtain ⟨b1, b2, b3⟩ := showN_inner h0 h1 hX
 have b4 := b2 p hp
 rw [hpe] at b4
 have hmem : ∀ (ps : List Int), p ∈ ps -> (X l p.toNat).length + 1 <= (tails (showTo l l.length) ps).length := by
  intro ps
  induction ps with
  | nil => intro h; cases h
  | cons a ps ih =>
    intro h
    rcases List.mem_cons.1 h with e | e
    ·subst e; simp only [tails, List.flatMap_cons, List.length_append, List.length_cons]; rw [hpe]; omega
    ·have := ih e
     simp only [tails, List.flatMap_cons, List.length_append, List.length_cons] at this ⊢; omega
 have := hmem _ hp
 refine ⟨hpe, b4, ?_, ?_⟩
 ·rw [hXa, b1]; simp; omega
 ·rw [hXa, b1]; rfl
theorem reparts_self {l : List Nd} (hD : Down l) {i : Nat} (hi : i < l.length) : reparts (nth l i) ((parts (nth l i)).map Int.toNat) = nth l i := by
 have hd := hD i hi
 unfold reparts
 rcases parts_cases (nth l i) with e | e | e | e
 ·rw [e]; rfl
 ·rw [e] at hd ⊢
  have h1 := hd (nth l i).a (by simp)
  apply Nd.ext'
  simp; omega
 ·rw [e] at hd ⊢
  have h1 := hd (nth l i).a (by simp)
  have h2 := hd (nth l i).b (by simp)
  apply Nd.ext'
  simp; omega
 ·rw [e] at hd ⊢
  have h1 := hd (nth l i).a (by simp)
  have h2 := hd (nth l i).b (by simp)
  have h3 := hd (nth l i).c (by simp)
  apply Nd.ext'
  simp; omega
theorem mem_zip_map {α β : Type} (f : α -> β) : ∀ (ps : List α) (x : α × β), x ∈ ps.zip (ps.map f) -> x.1 ∈ ps /\ x.2 = f x.1 := by
 intro ps
 induction ps with
 | nil => intro x hx; cases hx
 | cons a ps ih =>
   intro x hx
   simp only [List.map_cons, List.zip_cons_cons, List.mem_cons] at hx
   rcases hx with e | e
   ·subst e; exact ⟨by simp, rfl⟩
   ·have := ih x e; exact ⟨by simp [this.1], this.2⟩
theorem reread {t : List Nd} (hG : Neat t) : ∀ j, j < t.length -> X t j ≠ [] -> ∀ g p q, (X t j).length < g -> (Bd q \/ opens (X t j) = true) -> rdL g ⟨p, X t j ++ q, t⟩ = .ok (⟨p + (X t j).length, q, t⟩, j) := by
 intro j
 induction j using Nat.strongRecOn with
 | ind j ih =>
   intro hj hX g p q hg hq
   have hD := hG.down
   cases g with
   | zero => omega
   | succ g =>
     have hp : ∀ p0 p q, Bd q -> partsL (rdL g) p0 (parts (nth t j)).length ⟨p, tails (showTo t t.length) (parts (nth t j)) ++ q, t⟩ = .ok (⟨p + (tails (showTo t t.length) (parts (nth t j))).length, q, t⟩, (parts (nth t j)).map Int.toNat) := by
      intro p0
      refine parts_seq (showTo t t.length) p0 (parts (nth t j)) _ (by simp) ?_
      intro x hx p q hq
      obtain ⟨h1, h2⟩ := mem_zip_map Int.toNat _ x hx
      obtain ⟨c1, c2, c3, c4⟩ := part_text hD hj hX h1
      have hd := hD j hj x.1 h1
      rw [c1, h2]
      exact ih x.1.toNat (by omega) (by omega) c2 g p q (by omega) (.inl hq)
     have hw : ((parts (nth t j)).map Int.toNat).map (fun (i : Nat) => width t (i : Int)) = (parts (nth t j)).map (width t) := by
      rw [List.map_map]
      apply List.map_congr_left
      intro p hp
      have hd := hD j hj p hp
      simp only [Function.comp]
      congr 1; omega
     have key := node_read hG.ok hD hj hX (by simp) hw hp p q hq
     rw [key, reparts_self hD hj]
     unfold putL
     rw [place_at hG hj]
theorem text_inj {t : List Nd} (hG : Neat t) {j k : Nat} (hj : j < t.length) (hk : k < t.length) (hX : X t j ≠ []) (h : X t j = X t k) : j = k := by
 have h1 := reread hG j hj hX ((X t j).length + 1) 0 [] (by omega) (.inl bd_nil)
 have h2 := reread hG k hk (by rw [<- h]; exact hX) ((X t j).length + 1) 0 [] (by rw [h]; omega) (.inl bd_nil)
 rw [<- h, h1] at h2
 injection h2 with h2
 injection h2
end Tx3
end Go.Proofs.YtiaimhgfimhepaaGreatDoor
