import Derived.Test.YtiaimhgfimhepaaGreatDoorPkVV34
import Derived.Test.YtiaimhgfimhepaaGreatDoorPkVV21
import Derived.Test.YtiaimhgfimhepaaGreatDoorPkVV33
import Derived.Test.YtiaimhgfimhepaaGreatDoorPkVV36
namespace Go.Proofs.YtiaimhgfimhepaaGreatDoor
set_option maxRecDepth 100000
set_option maxHeartbeats 8000000
set_option linter.unusedVariables false
namespace Px2
open Nd0 Pl1 Tm0 Tx0 Tx1 Tx5 Px0 Px1
def R (s : List UInt8) (p : Nat) (t : List Nd) : Rd := ⟨p, s.drop p, t⟩
theorem drop_some {s : List UInt8} {p : Nat} {c : UInt8} (h : s[p]? = some c) : s.drop p = c :: s.drop (p + 1) := by
 obtain ⟨hl, he⟩ := List.getElem?_eq_some_iff.1 h
 rw [List.drop_eq_getElem_cons hl, he]
theorem drop_none {s : List UInt8} {p : Nat} (h : s[p]? = none) : s.drop p = [] := List.drop_eq_nil_of_le (List.getElem?_eq_none_iff.1 h)
theorem at_drop {s : List UInt8} {p : Nat} {l : List UInt8} (h : s.drop p = l) : s[p]? = l.head? := by rw [<- h, List.head?_drop]
theorem drop_app {s : List UInt8} {p : Nat} {a l : List UInt8} (h : s.drop p = a ++ l) : s.drop (p + a.length) = l := by
 rw [<- List.drop_drop, h, List.drop_left]
theorem R_blank (s : List UInt8) (p : Nat) (t : List Nd) : (R s p t).blank = if s[p]? = some 32 then some (R s (p + 1) t) else none := by
 cases h : s[p]? with
 | none =>
   have e := drop_none h
   unfold R Rd.blank
   simp only [e]
   simp
 | some c =>
   have e := drop_some h
   unfold R Rd.blank
   simp only [e]
   simp
theorem R_past (s : List UInt8) (p : Nat) (t : List Nd) : (R s p t).past = R s (p + (R s p t).word.length) t := by
 have h := word_past (R s p t)
 have e := drop_app (s := s) (p := p) (a := (R s p t).word) (l := (R s p t).past.r) h
 show (⟨_, _, _⟩ : Rd) = ⟨_, _, _⟩
 rw [e]
 rfl
theorem word_split (s : List UInt8) (p : Nat) (t : List Nd) : ∃ q, s.drop p = (R s p t).word ++ q /\ Bd q := by
 refine ⟨(s.drop p).dropWhile inWord, (List.takeWhile_append_dropWhile).symm, ?_⟩
 cases h : (s.drop p).dropWhile inWord with
 | nil => exact .inl rfl
 | cons c q =>
   refine .inr ⟨c, q, rfl, ?_⟩
   have := List.head_dropWhile_not inWord (l := s.drop p) (by rw [h]; simp)
   simp only [h, List.head_cons] at this
   exact this
theorem dig_word {c : UInt8} (h : isDig c = true) : inWord c = true /\ c ≠ 58 := by
 unfold isDig at h
 have h := of_decide_eq_true h
 have n32 : c ≠ 32 := by rintro rfl; exact absurd h.1 (by decide)
 have n41 : c ≠ 41 := by rintro rfl; exact absurd h.1 (by decide)
 refine ⟨by unfold inWord; simp [n32, n41], by rintro rfl; exact absurd h.2 (by decide)⟩
theorem dig_split (w : List UInt8) : ∃ a v, w = a ++ v /\ (∀ c ∈ a, isDig c = true) /\ (v = [] \/ ∃ e u, v = e :: u /\ isDig e = false) := by
 induction w with
 | nil => exact ⟨[], [], rfl, by simp, .inl rfl⟩
 | cons c w ih =>
   cases hc : isDig c
   ·exact ⟨[], c :: w, rfl, by simp, .inr ⟨c, w, rfl, hc⟩⟩
   ·obtain ⟨a, v, h1, h2, h3⟩ := ih
    exact ⟨c :: a, v, by rw [h1]; rfl, by intro d hd; rcases List.mem_cons.1 hd with e | e; exact e ▸ hc; exact h2 d e, h3⟩
theorem take_while {P : UInt8 -> Bool} {a v : List UInt8} (h : ∀ c ∈ a, P c = true) (hv : v = [] \/ ∃ e u, v = e :: u /\ P e = false) : (a ++ v).takeWhile P = a /\ (a ++ v).dropWhile P = v := by
 induction a with
 | nil =>
   rcases hv with rfl | ⟨e, u, rfl, he⟩
   ·exact ⟨rfl, rfl⟩
   ·simp [he]
 | cons c a ih =>
   have := ih (fun d hd => h d (by simp [hd]))
   simp [h c (by simp), this.1, this.2]
theorem bd_dig {v q : List UInt8} (hv : v = [] \/ ∃ e u, v = e :: u /\ isDig e = false) (hq : Bd q) : v ++ q = [] \/ ∃ e u, v ++ q = e :: u /\ isDig e = false := by
 rcases hv with rfl | ⟨e, u, rfl, he⟩
 ·rcases hq with rfl | ⟨c, q', rfl, hc⟩
  ·exact .inl rfl
  ·refine .inr ⟨c, q', rfl, ?_⟩
   cases hd : isDig c
   ·rfl
   ·rw [(dig_word hd).1] at hc; cases hc
 ·exact .inr ⟨e, u ++ q, rfl, he⟩
theorem num_bad {l : List UInt8} {c : UInt8} (hc : c ∈ l) (h : isDig c = false) : numL l = none := by
 unfold numL
 split
 ·rfl
 ·rw [if_neg (fun e => by rw [List.all_eq_true.1 e c hc] at h; cases h)]
theorem num_word {s : List UInt8} {p : Nat} {w q : List UInt8} (st : Nat) (h : s.drop p = w ++ q) (hw : ∀ c ∈ w, inWord c = true) (hq : Bd q) :
 (pDig s p = w /\ s.drop (p + w.length) = q) \/ (∃ e u, s.drop (p + (pDig s p).length) = e :: u /\ inWord e = true /\ isDig e = false /\ e ∈ w /\ w = pDig s p ++ e :: (u.takeWhile inWord)) := by
 obtain ⟨a, v, h1, h2, h3⟩ := dig_split w
 have hd : pDig s p = a := by
  unfold pDig
  rw [h, h1, List.append_assoc]
  exact (take_while h2 (bd_dig h3 hq)).1
 rcases h3 with rfl | ⟨e, u, rfl, he⟩
 ·rw [List.append_nil] at h1
  subst h1
  exact .inl ⟨hd, drop_app h⟩
 ·refine .inr ⟨e, u ++ q, ?_, hw e (by rw [h1]; simp), he, by rw [h1]; simp, ?_⟩
  ·rw [hd]; exact drop_app (by rw [h, h1]; simp)
  ·rw [hd, h1, (take_word (fun c hc => hw c (by rw [h1]; simp [hc])) hq).1]
theorem need_no {s : List UInt8} {c : UInt8} {st p : Nat} (h : s[p]? ≠ some c) : pNeed s c st p = .error (2, st) := by unfold pNeed; rw [if_neg h]
theorem need_yes {s : List UInt8} {c : UInt8} {st p : Nat} (h : s[p]? = some c) : pNeed s c st p = .ok (p + 1) := by unfold pNeed; rw [if_pos h]
theorem bd_head {q : List UInt8} (hq : Bd q) {c : UInt8} (hc : inWord c = true) : q.head? ≠ some c := by
 rcases hq with rfl | ⟨d, q', rfl, hd⟩
 ·simp
 ·simp only [List.head?_cons]
  intro e; cases e; rw [hc] at hd; cases hd
theorem bd_end {s : List UInt8} {p st : Nat} {q : List UInt8} (h : s.drop p = q) (hq : Bd q) : pEnd s st p = .ok p := by
 unfold pEnd
 rw [at_drop h]
 rcases hq with rfl | ⟨d, q', rfl, hd⟩
 ·rw [if_pos (.inl rfl)]
 ·rw [if_pos]
  refine .inr ?_
  unfold inWord at hd
  simp only [List.head?_cons, Option.some.injEq]
  by_cases e : d = 32
  ·exact .inl e
  ·refine .inr ?_
   simp [e] at hd
   exact hd
theorem word_end {s : List UInt8} {p st : Nat} {e : UInt8} {u : List UInt8} (h : s.drop p = e :: u) (he : inWord e = true) : pEnd s st p = .error (2, st) := by
 unfold pEnd
 rw [at_drop h, if_neg]
 rintro (a | a | a)
 ·cases a
 ·cases a; cases he
 ·cases a; cases he
theorem two_head (d : UInt8) (w : List UInt8) : twoL d (d :: w) = match w.dropWhile (fun x => x != 58) with
 | [] => none
 | _ :: y => match numL (w.takeWhile (fun x => x != 58)), numL y with
   | some a, some b => some (a, b)
   | _, _ => none := by
 conv => lhs; unfold twoL
 exact if_pos rfl
theorem two_ne {c d : UInt8} {w : List UInt8} (h : ¬ d = c) : twoL c (d :: w) = none := by
 unfold twoL
 exact if_neg h
theorem pair_word (s : List UInt8) (t : List Nd) (c : UInt8) (hc : inWord c = true) (st p : Nat) : pPair s c st p = match twoL c (R s p t).word with
 | some x => .ok (x, p + (R s p t).word.length)
 | none => .error (2, st) := by
 obtain ⟨q, hd, hq⟩ := word_split s p t
 have hw : ∀ c ∈ (R s p t).word, inWord c = true := word_all _
 generalize (R s p t).word = w at hd hw
 cases w with
 | nil =>
   have : s[p]? ≠ some c := by rw [at_drop hd]; exact bd_head hq hc
   unfold pPair
   rw [need_no this]
   rfl
 | cons d w =>
   by_cases hdc : d = c
   ·subst hdc
    have h0 : s[p]? = some d := by rw [at_drop hd]; rfl
    have h1 : s.drop (p + 1) = w ++ q := drop_app (a := [d]) hd
    have hw1 : ∀ c ∈ w, inWord c = true := fun x hx => hw x (by simp [hx])
    unfold pPair
    rw [need_yes h0]
    simp only [Except.bind]
    obtain ⟨a, v, e1, e2, e3⟩ := dig_split w
    have hp : pDig s (p + 1) = a := by
     unfold pDig
     rw [h1, e1, List.append_assoc]
     exact (take_while e2 (bd_dig e3 hq)).1
    have ht : ∀ (v' : List UInt8), (v' = [] \/ ∃ e u, v' = e :: u /\ (e != 58) = false) -> (a ++ v').takeWhile (fun x => x != 58) = a /\ (a ++ v').dropWhile (fun x => x != 58) = v' := fun v' h => take_while (fun c hc => by simpa using (dig_word (e2 c hc)).2) h
    have h2 : s.drop (p + 1 + a.length) = v ++ q := drop_app (by rw [h1, e1, List.append_assoc])
    have hno : ∀ e u, v = e :: u -> isDig e = false -> e ≠ 58 -> twoL d (d :: w) = none := by
     intro e u hv he h58
     rw [two_head]
     cases hdw : w.dropWhile (fun x => x != 58) with
     | nil => rfl
     | cons z y =>
       simp only
       have hb : numL (w.takeWhile (fun x => x != 58)) = none := by
        refine num_bad (c := e) ?_ he
        rw [e1, hv, List.takeWhile_append_of_pos (fun c hc => by simpa using (dig_word (e2 c hc)).2), List.takeWhile_cons_of_pos (by simpa using h58)]
        simp
       rw [hb]
    cases hn : numL a with
    | none =>
      have hpn : pNum s st (p + 1) = .error (2, st) := by unfold pNum; rw [hp, hn]
      rw [hpn]
      simp only
      have : twoL d (d :: w) = none := by
       rcases e3 with rfl | ⟨e, u, rfl, he⟩
       ·rw [two_head, e1, (ht [] (.inl rfl)).2]
       ·by_cases h58 : e = 58
        ·subst h58
         rw [two_head, e1, (ht _ (.inr ⟨58, u, rfl, rfl⟩)).2, (ht _ (.inr ⟨58, u, rfl, rfl⟩)).1]
         simp only
         rw [hn]
        ·exact hno e u rfl he h58
      rw [this]
    | some x =>
      have hpn : pNum s st (p + 1) = .ok (x, p + 1 + a.length) := by unfold pNum; rw [hp, hn]
      rw [hpn]
      simp only
      rcases e3 with rfl | ⟨e, u, rfl, he⟩
      ·have hx : s[p + 1 + a.length]? ≠ some 58 := by rw [at_drop h2]; exact bd_head hq rfl
       rw [need_no hx]
       simp only
       have : twoL d (d :: w) = none := by rw [two_head, e1, (ht [] (.inl rfl)).2]
       rw [this]
      ·by_cases h58 : e = 58
       ·subst h58
        have hx : s[p + 1 + a.length]? = some 58 := by rw [at_drop h2]; rfl
        rw [need_yes hx]
        simp only
        have h3 : s.drop (p + 1 + a.length + 1) = u ++ q := drop_app (a := [58]) h2
        have htw : twoL d (d :: w) = match numL u with | some b => some (x, b) | none => none := by
         rw [two_head, e1, (ht _ (.inr ⟨58, u, rfl, rfl⟩)).2, (ht _ (.inr ⟨58, u, rfl, rfl⟩)).1]
         simp only
         rw [hn]
         cases numL u <;> rfl
        rw [htw]
        have hlen : p + (d :: w).length = p + 1 + a.length + 1 + u.length := by rw [e1]; simp; omega
        rcases num_word (s := s) (p := p + 1 + a.length + 1) st h3 (fun c hc => hw1 c (by rw [e1]; simp [hc])) hq with ⟨k1, k2⟩ | ⟨e, z, k1, k2, k3, k4, k5⟩
        ·cases hb : numL u with
         | none =>
           have : pNum s st (p + 1 + a.length + 1) = .error (2, st) := by unfold pNum; rw [k1, hb]
           rw [this]
         | some y =>
           have : pNum s st (p + 1 + a.length + 1) = .ok (y, p + 1 + a.length + 1 + u.length) := by unfold pNum; rw [k1, hb]
           rw [this]
           simp only
           rw [bd_end k2 hq]
           simp only
           rw [hlen]
        ·rw [num_bad k4 k3]
         simp only
         cases hb : numL (pDig s (p + 1 + a.length + 1)) with
         | none =>
           have : pNum s st (p + 1 + a.length + 1) = .error (2, st) := by unfold pNum; rw [hb]
           rw [this]
         | some y =>
           have : pNum s st (p + 1 + a.length + 1) = .ok (y, p + 1 + a.length + 1 + (pDig s (p + 1 + a.length + 1)).length) := by unfold pNum; rw [hb]
           rw [this]
           simp only
           rw [word_end k1 k2]
       ·have hx : s[p + 1 + a.length]? ≠ some 58 := by rw [at_drop h2]; simpa using h58
        rw [need_no hx]
        simp only
        rw [hno e u rfl he h58]
   ·have h0 : s[p]? ≠ some c := by rw [at_drop hd]; simpa using hdc
    unfold pPair
    rw [need_no h0]
    simp only [Except.bind]
    have : twoL c (d :: w) = none := by exact two_ne hdc
    rw [this]
end Px2
namespace Px3
open Nd0 Pl1 Tm0 Tx0 Tx1 Tx5 Px0 Px1 Px2
open Tx3 (Neat)
def K (o : Int) : Nat := if o = 2 \/ o = 17 \/ o = 19 \/ o = 20 then 1 else if 3 <= o /\ o <= 16 then 2 else if o = 18 then 3 else 0
theorem parts_K (n : Nd) : (parts n).length = K n.op := by
 unfold parts K
 split
 ·rfl
 ·split
  ·rfl
  ·split <;> rfl
theorem K_pos {o : Nat} (h2 : 2 <= o) (h20 : o <= 20) : ∃ c, K (o : Int) = c + 1 := by
 unfold K
 split
 ·exact ⟨0, rfl⟩
 ·split
  ·exact ⟨1, rfl⟩
  ·rw [if_pos (by omega)]; exact ⟨2, rfl⟩
theorem opP_range {w : List UInt8} {o : Nat} (h : opP w = some o) : 2 <= o /\ o <= 20 := by
 unfold opP at h
 obtain ⟨i, hi, rfl⟩ := Option.map_eq_some_iff.1 h
 have := List.mem_range.1 (List.mem_of_find?_eq_some hi)
 omega
theorem tab_mem0 : ∀ j : Fin 19, opTab.getD (j.val + 2) [] ∈ opTab.drop 2 := by decide
theorem tab_mem {j : Nat} (h2 : 2 <= j) (h21 : j < 21) : opTab.getD j [] ∈ opTab.drop 2 := by
 have h := tab_mem0 ⟨j - 2, by omega⟩
 have e : j - 2 + 2 = j := by omega
 simp only [e] at h
 exact h
theorem words_sub : ∀ x ∈ wordsL, x ∈ opTab.drop 2 := by decide
theorem op_tab : ∀ w ∈ opTab.drop 2, opOf w = (opP w).map (fun (o : Nat) => ((o : Int), K (o : Int))) := by decide
theorem op_same (w : List UInt8) : opOf w = (opP w).map (fun (o : Nat) => ((o : Int), K (o : Int))) := by
 by_cases hm : w ∈ opTab.drop 2
 ·exact op_tab w hm
 ·rw [opP_none (fun j h2 h21 e => hm (by rw [<- e]; exact tab_mem h2 h21))]
  unfold opOf
  rw [List.find?_eq_none.2 (fun i hi => by
   have hi := List.mem_range.1 hi
   simp only [decide_eq_true_eq]
   intro e
   refine hm (words_sub w ?_)
   rw [<- e, List.getD_eq_getElem?_getD, List.getElem?_eq_getElem (by exact hi), Option.getD_some]
   exact List.getElem_mem _)]
  simp only
  rw [if_neg (fun e => hm (by rw [e]; decide)), if_neg (fun e => hm (by rw [e]; decide)), if_neg (fun e => hm (by rw [e]; decide)), if_neg (fun e => hm (by rw [e]; decide)), if_neg (fun e => hm (by rw [e]; decide))]
  rfl
theorem tab_shut : ∀ w ∈ opTab.drop 2, (41 : UInt8) ∉ w := by decide
theorem shut_none {w : List UInt8} (h : (41 : UInt8) ∈ w) : opP w = none := opP_none (fun j h2 h21 e => tab_shut _ (tab_mem h2 h21) (by rw [e]; exact h))
theorem word_or (s : List UInt8) (p : Nat) (t : List Nd) : pWord s p = (R s p t).word \/ (s[p + (R s p t).word.length]? = some 41 /\ (41 : UInt8) ∈ pWord s p) := by
 obtain ⟨q, hd, hq⟩ := word_split s p t
 have hw : ∀ c ∈ (R s p t).word, inWord c = true := word_all _
 have h32 : ∀ c ∈ (R s p t).word, (c != 32) = true := fun c hc => by
  have := hw c hc
  unfold inWord at this
  simp only [Bool.and_eq_true] at this
  exact this.1
 generalize (R s p t).word = w at hd hw h32
 rcases hq with rfl | ⟨c, q', rfl, hc⟩
 ·refine .inl ?_
  unfold pWord
  rw [hd]
  exact (take_while h32 (.inl rfl)).1
 ·by_cases e : c = 32
  ·subst e
   refine .inl ?_
   unfold pWord
   rw [hd]
   exact (take_while h32 (.inr ⟨32, q', rfl, rfl⟩)).1
  ·have e41 : c = 41 := by unfold inWord at hc; simp [e] at hc; exact hc
   subst e41
   refine .inr ⟨?_, ?_⟩
   ·rw [at_drop (drop_app hd)]; rfl
   ·unfold pWord
    rw [hd, List.takeWhile_append_of_pos h32, List.takeWhile_cons_of_pos (by decide)]
    simp
def cv (s : List UInt8) (r : Except Er (Nat × St)) : Except (Int × Nat) (Rd × Nat) := r.bind fun y => .ok (R s y.2.1 y.2.2, y.1)
def cvM (s : List UInt8) (r : Except Er (List Nat × St)) : Except (Int × Nat) (Rd × List Nat) := r.bind fun y => .ok (R s y.2.1 y.2.2, y.1)
def Agree (s : List UInt8) (f : Nat) : Prop := ∀ p t, s.length - p < f -> rdL f (R s p t) = cv s (pNode s f (p, t))
theorem lt_of_at {s : List UInt8} {p : Nat} {c : UInt8} (h : s[p]? = some c) : p < s.length := (List.getElem?_eq_some_iff.1 h).1
theorem many_same {s : List UInt8} {f : Nat} (h : Agree s f) (p0 : Nat) : ∀ c p t, s.length - p <= f -> partsL (rdL f) p0 c (R s p t) = cvM s (pMany s (pNode s f) p0 c (p, t)) := by
 intro c
 induction c with
 | zero => intro p t _; rfl
 | succ c ih =>
   intro p t hf
   simp only [partsL, pMany]
   rw [R_blank]
   by_cases h32 : s[p]? = some 32
   ·have hlt := lt_of_at h32
    rw [if_pos h32, need_yes h32]
    simp only [Except.bind]
    rw [h (p + 1) t (by omega)]
    cases hn : pNode s f (p + 1, t) with
    | error e => rfl
    | ok y =>
      have hm := node_mono s f _ _ hn
      simp only at hm
      simp only [cv, Except.bind]
      rw [ih y.2.1 y.2.2 (by omega)]
      cases pMany s (pNode s f) p0 c (y.2.1, y.2.2) with
      | error e => rfl
      | ok z => rfl
   ·rw [if_neg h32, need_no h32]
    rfl
def tailL (f p0 c : Nat) (s1 : Rd) (n : Nd) : Except (Int × Nat) (Rd × Nat) :=
 match partsL (rdL f) p0 c s1 with
 | .error e => .error e
 | .ok (s2, is) => match s2.r with
   | [] => .error (2, p0)
   | c :: r => if c = 41 then
    match putL s2.t (madeL n s2.t is) p0 with
    | .error e => .error e
    | .ok (t, i) => .ok (⟨s2.p + 1, r, t⟩, i)
    else .error (2, p0)
def tailP (s : List UInt8) (f p0 : Nat) (n : Nd) (q : Nat) (t : List Nd) : Except Er (Nat × St) :=
 (pParts s (pNode s f) n p0 (q, t)).bind fun z => pPut p0 z.2.1 z.2.2 { z.1 with w := pWid z.2.2 z.1 }
theorem tail_same {s : List UInt8} {f : Nat} (h : Agree s f) (p0 c q : Nat) (t : List Nd) (n m : Nd) (hf : s.length - q <= f) (hc : (parts m).length = c)
 (hm : ∀ t (is : List Nat), is.length = c -> madeL n t is = { setParts m is with w := pWid t (setParts m is) }) : tailL f p0 c (R s q t) n = cv s (tailP s f p0 m q t) := by
 unfold tailL tailP pParts
 rw [many_same h p0 c q t hf, hc]
 cases hM : pMany s (pNode s f) p0 c (q, t) with
 | error e => rfl
 | ok y =>
   have hlen := many_len hM
   simp only [cvM, Except.bind]
   cases hx : s[y.2.1]? with
   | none =>
     have e : (R s y.2.1 y.2.2).r = [] := drop_none hx
     rw [need_no (by rw [hx]; simp)]
     simp only [e]
     rfl
   | some d =>
     have e : (R s y.2.1 y.2.2).r = d :: s.drop (y.2.1 + 1) := drop_some hx
     simp only [e]
     by_cases hd : d = 41
     ·subst hd
      have hmm : madeL n (R s y.2.1 y.2.2).t y.1 = { setParts m y.1 with w := pWid y.2.2 (setParts m y.1) } := hm _ _ hlen
      rw [if_pos rfl, need_yes hx, hmm]
      simp only
      generalize ({ op := (setParts m y.1).op, w := pWid y.2.2 (setParts m y.1), k := (setParts m y.1).k, a := (setParts m y.1).a, b := (setParts m y.1).b, c := (setParts m y.1).c } : Nd) = N
      unfold pPut cv
      show (match putL y.2.2 N p0 with | .error e => _ | .ok (t, i) => _) = _
      cases putL y.2.2 N p0 with
      | error e => rfl
      | ok z => rfl
     ·rw [if_neg hd, need_no (by rw [hx]; simpa using hd)]
      rfl
theorem made_same {n m : Nd} {o : Nat} (ho : n.op = (o : Int)) (h2 : 2 <= o) (h20 : o <= 20) (hop : m.op = n.op) (hk : m.k = n.k) (hb : m.b = n.b) (hw : o = 17 -> m.w = n.w) (hq : o = 19 \/ o = 20 -> n.w = 1) (t : List Nd) (is : List Nat) (hl : is.length = K o) :
 madeL n t is = { setParts m is with w := pWid t (setParts m is) } := by
 have hc : (if 2 < is.length then ((is.getD 2 0 : Nat) : Int) else 0) = ((is.getD 2 0 : Nat) : Int) := by
  split
  ·rfl
  ·rw [List.getD_eq_getElem?_getD, List.getElem?_eq_none (by omega)]; rfl
 unfold madeL setParts pWid width
 simp only [hc, hop, hk, hb]
 generalize (if 1 < is.length then ((is.getD 1 0 : Nat) : Int) else n.b) = bb
 congr 1
 by_cases h17 : o = 17
 ·rw [if_pos (by omega), if_neg (by omega), if_neg (by omega), if_pos (by omega), hw h17]
 ·by_cases hqq : o = 19 \/ o = 20
  ·rw [if_pos (by omega), if_neg (by omega), if_neg (by omega), if_neg (by omega), if_neg (by omega), hq hqq]
  ·rw [if_neg (by omega)]
   by_cases h13 : 13 <= o /\ o <= 15
   ·rw [if_pos (by omega), if_neg (by omega), if_neg (by omega), if_neg (by omega), if_neg (by omega)]
   ·rw [if_neg (by omega)]
    by_cases h16 : o = 16
    ·rw [if_pos (by omega), if_neg (by omega), if_pos (by omega)]
    ·rw [if_neg (by omega)]
     by_cases h18 : o = 18
     ·rw [if_pos (by omega), if_neg (by omega), if_neg (by omega), if_neg (by omega), if_pos (by omega)]
     ·rw [if_neg (by omega), if_pos (by omega)]
theorem body_same {s : List UInt8} {f : Nat} (h : Agree s f) (p0 q : Nat) (t : List Nd) (o : Nat) (h2 : 2 <= o) (h20 : o <= 20) (hf : s.length - q <= f) :
 (match numsL (o : Int) (R s q t) with | none => .error (2, p0) | some (s1, n) => tailL f p0 (K o) s1 n) = cv s ((pNums s o p0 q).bind fun y => tailP s f p0 y.1 y.2 t) := by
 unfold numsL pNums
 by_cases h17 : o = 17
 ·subst h17
  rw [if_pos (show ((17 : Nat) : Int) = 17 from rfl), if_pos (show (17 : Nat) = 17 from rfl), R_blank]
  by_cases b1 : s[q]? = some 32
  ·have l1 := lt_of_at b1
   rw [if_pos b1, need_yes b1]
   simp only [Except.bind]
   obtain ⟨z, hd, hz⟩ := word_split s (q + 1) t
   rcases num_word (s := s) (p := q + 1) p0 hd (word_all _) hz with ⟨k1, k2⟩ | ⟨e, u, k1, k2, k3, k4, k5⟩
   ·cases hn : numL (R s (q + 1) t).word with
    | none =>
      have : pNum s p0 (q + 1) = .error (2, p0) := by unfold pNum; rw [k1, hn]
      rw [this]
      rfl
    | some k =>
      have : pNum s p0 (q + 1) = .ok (k, q + 1 + (R s (q + 1) t).word.length) := by unfold pNum; rw [k1, hn]
      rw [this]
      simp only
      rw [R_past, R_blank]
      obtain ⟨q2, hq2⟩ : ∃ q2, q + 1 + (R s (q + 1) t).word.length = q2 := ⟨_, rfl⟩
      rw [hq2]
      by_cases b2 : s[q2]? = some 32
      ·have l2 := lt_of_at b2
       rw [if_pos b2, need_yes b2]
       simp only
       obtain ⟨z2, hd2, hz2⟩ := word_split s (q2 + 1) t
       rcases num_word (s := s) (p := q2 + 1) p0 hd2 (word_all _) hz2 with ⟨k1', k2'⟩ | ⟨e, u, k1', k2', k3', k4', k5'⟩
       ·cases hn2 : numL (R s (q2 + 1) t).word with
        | none =>
          have : pNum s p0 (q2 + 1) = .error (2, p0) := by unfold pNum; rw [k1', hn2]
          rw [this]
          rfl
        | some w =>
          have : pNum s p0 (q2 + 1) = .ok (w, q2 + 1 + (R s (q2 + 1) t).word.length) := by unfold pNum; rw [k1', hn2]
          rw [this]
          simp only
          rw [R_past]
          exact tail_same h p0 _ _ t _ _ (by omega) (by rw [parts_K]) (fun t is hl => made_same (o := 17) rfl h2 h20 rfl rfl rfl (fun _ => rfl) (fun e => by omega) t is hl)
       ·rw [num_bad k4' k3']
        simp only
        cases hn2 : numL (pDig s (q2 + 1)) with
        | none =>
          have : pNum s p0 (q2 + 1) = .error (2, p0) := by unfold pNum; rw [hn2]
          rw [this]
          rfl
        | some w =>
          have : pNum s p0 (q2 + 1) = .ok (w, q2 + 1 + (pDig s (q2 + 1)).length) := by unfold pNum; rw [hn2]
          rw [this]
          simp only
          have hne : s[q2 + 1 + (pDig s (q2 + 1)).length]? ≠ some 32 := by rw [at_drop k1']; intro e'; cases e'; cases k2'
          unfold tailP pParts
          rw [parts_K]
          show _ = cv s (Except.bind (Except.bind (pMany s (pNode s f) p0 1 (q2 + 1 + (pDig s (q2 + 1)).length, t)) _) _)
          simp only [pMany]
          rw [need_no hne]
          rfl
      ·rw [if_neg b2, need_no b2]
       rfl
   ·rw [num_bad k4 k3]
    simp only
    cases hn2 : numL (pDig s (q + 1)) with
    | none =>
      have : pNum s p0 (q + 1) = .error (2, p0) := by unfold pNum; rw [hn2]
      rw [this]
      rfl
    | some w =>
      have : pNum s p0 (q + 1) = .ok (w, q + 1 + (pDig s (q + 1)).length) := by unfold pNum; rw [hn2]
      rw [this]
      simp only
      rw [need_no (by rw [at_drop k1]; intro e'; cases e'; cases k2)]
      rfl
  ·rw [if_neg b1, need_no b1]
   rfl
 ·rw [if_neg (by omega), if_neg h17]
  by_cases hq : o = 19 \/ o = 20
  ·rw [if_pos (by omega), if_pos hq, R_blank]
   by_cases b1 : s[q]? = some 32
   ·have l1 := lt_of_at b1
    rw [if_pos b1, need_yes b1]
    simp only [Except.bind]
    rw [pair_word s t 118 rfl]
    cases ht : twoL 118 (R s (q + 1) t).word with
    | none => rfl
    | some x =>
      obtain ⟨k, b⟩ := x
      simp only
      rw [R_past]
      exact tail_same h p0 _ _ t _ _ (by omega) (by rw [parts_K]) (fun t is hl => made_same (n := ⟨(o : Int), 1, (k : Int), 0, (b : Int), 0⟩) (m := ⟨(o : Int), 0, (k : Int), 0, (b : Int), 0⟩) (o := o) rfl h2 h20 rfl rfl rfl (fun e => by omega) (fun _ => rfl) t is hl)
   ·rw [if_neg b1, need_no b1]
    rfl
  ·rw [if_neg (by omega), if_neg hq]
   simp only [Except.bind]
   exact tail_same h p0 _ _ t _ _ hf (by rw [parts_K]) (fun t is hl => made_same (o := o) rfl h2 h20 rfl rfl rfl (fun e => by omega) (fun e => absurd e hq) t is hl)
theorem inner_same {s : List UInt8} {f : Nat} (h : Agree s f) (p : Nat) (t : List Nd) (hp : s[p]? = some 40) (hf : s.length - p < f + 1) : innerL (rdL f) p (R s (p + 1) t) = cv s (pNode s (f + 1) (p, t)) := by
 have hl := lt_of_at hp
 have e : pNode s (f + 1) (p, t) = (pOp s p p).bind fun o => (pNums s o.1 p o.2).bind fun y => tailP s f p y.1 y.2 t := by
  simp only [pNode]
  rw [if_neg (by rw [hp]; decide), if_neg (by rw [hp]; decide)]
  rfl
 rw [e]
 unfold pOp
 rw [need_yes hp]
 simp only [Except.bind]
 unfold innerL
 rw [op_same, R_past]
 rcases word_or s (p + 1) t with hw | ⟨h41, hm⟩
 ·rw [hw]
  cases ho : opP (R s (p + 1) t).word with
  | none => rfl
  | some o =>
    obtain ⟨h2, h20⟩ := opP_range ho
    simp only [Option.map_some]
    exact body_same h p _ t o h2 h20 (by omega)
 ·rw [shut_none hm]
  cases ho : opP (R s (p + 1) t).word with
  | none => rfl
  | some o =>
    obtain ⟨h2, h20⟩ := opP_range ho
    obtain ⟨c, hc⟩ := K_pos h2 h20
    have hb : (R s (p + 1 + (R s (p + 1) t).word.length) t).blank = none := by rw [R_blank, h41]; rfl
    simp only [Option.map_some]
    rw [hc]
    unfold numsL
    rw [hb]
    by_cases h17 : (o : Int) = 17
    ·rw [if_pos h17]; rfl
    ·rw [if_neg h17]
     by_cases hq : (o : Int) = 19 \/ (o : Int) = 20
     ·rw [if_pos hq]; rfl
     ·rw [if_neg hq]
      simp only [partsL]
      rw [hb]
      rfl
theorem two_other {c d : UInt8} {w : List UInt8} (h : ∀ w', w ≠ c :: w') : twoL c w = none := by
 cases w with
 | nil => rfl
 | cons x w =>
   exact two_ne (fun e => h w (by rw [e]))
theorem leaf_same {s : List UInt8} {f : Nat} (p : Nat) (t : List Nd) (hp : s[p]? ≠ some 40) : leafL (R s p t) = cv s (pNode s (f + 1) (p, t)) := by
 have hne : ∀ c, s[p]? ≠ some c -> ∀ w', (R s p t).word ≠ c :: w' := fun c hc w' e => by
  have h := word_past (R s p t)
  rw [e] at h
  exact hc (by rw [at_drop (s := s) (p := p) h]; rfl)
 simp only [pNode]
 unfold leafL
 by_cases h35 : s[p]? = some 35
 ·rw [if_pos h35, pair_word s t 35 rfl]
  rw [two_other (c := 118) (d := 118) (hne 118 (by rw [h35]; decide))]
  cases ht : twoL 35 (R s p t).word with
  | none => rfl
  | some x =>
    obtain ⟨a, b⟩ := x
    simp only [Except.bind]
    rw [R_past]
    unfold pPut cv
    show (match putL t _ p with | .error e => _ | .ok (t, i) => _) = _
    cases putL t ⟨0, a, b, 0, 0, 0⟩ p with
    | error e => rfl
    | ok z => rfl
 ·rw [if_neg h35, two_other (c := 35) (d := 35) (hne 35 h35)]
  by_cases h118 : s[p]? = some 118
  ·rw [if_pos h118, pair_word s t 118 rfl]
   cases ht : twoL 118 (R s p t).word with
   | none => rfl
   | some x =>
     obtain ⟨a, b⟩ := x
     simp only [Except.bind]
     rw [R_past]
     unfold pPut cv
     show (match putL t _ p with | .error e => _ | .ok (t, i) => _) = _
     cases putL t ⟨1, b, a, 0, 0, 0⟩ p with
     | error e => rfl
     | ok z => rfl
  ·rw [if_neg h118, two_other (c := 118) (d := 118) (hne 118 h118)]
   unfold pOp
   rw [need_no hp]
   rfl
theorem agree (s : List UInt8) : ∀ f, Agree s f := by
 intro f
 induction f with
 | zero => intro p t h; omega
 | succ f ih =>
   intro p t h
   simp only [rdL]
   by_cases h40 : s[p]? = some 40
   ·have e := drop_some h40
    have ho : opens (R s p t).r = true := by show opens (s.drop p) = true; rw [e]; rfl
    have ht : (R s p t).r.tail = s.drop (p + 1) := by show (s.drop p).tail = _; rw [e]; rfl
    rw [if_pos ho, ht]
    exact inner_same ih p t h40 h
   ·have ho : ¬ opens (R s p t).r = true := by
     show ¬ opens (s.drop p) = true
     intro e
     cases hd : s.drop p with
     | nil => rw [hd] at e; cases e
     | cons c l =>
       rw [hd] at e
       unfold opens at e
       simp only [beq_iff_eq] at e
       exact h40 (by rw [at_drop hd, e]; rfl)
    rw [if_neg ho]
    exact leaf_same p t h40
structure Lst (t t' : List Nd) (i : Nat) : Prop where
 neat : Neat t'
 more : ∃ m, t' = t ++ m
 old : i < t.length -> t' = t
 new : t.length <= i -> i + 1 = t'.length
theorem put_lst {st p : Nat} {t0 t : List Nd} {n : Nd} {y : Nat × St} (hG : Neat t) (hm : ∃ m, t = t0 ++ m) (hx : t = t0 \/ ∃ x : Nat, (x : Int) ∈ parts n /\ x + 1 = t.length /\ t0.length <= x) (h : pPut st p t n = .ok y) : Lst t0 y.2.2 y.1 := by
 unfold pPut at h
 obtain ⟨z, hz, h⟩ := bind_ok h
 cases h
 obtain ⟨m, hm⟩ := hm
 have hle : t0.length <= t.length := by rw [hm]; simp
 unfold putL at hz
 cases hp : placeOf t n with
 | some i =>
   rw [hp] at hz
   cases hz
   obtain ⟨hi, hn⟩ := Tx3.place_some hp
   rcases hx with rfl | ⟨x, hx1, hx2, hx3⟩
   ·exact ⟨hG, ⟨[], by simp⟩, fun _ => rfl, fun hle => absurd hi (by first | omega | (simp only; omega))⟩
   ·have hd := hG.down i hi x (by rw [hn]; exact hx1)
    exfalso
    omega
 | none =>
   rw [hp] at hz
   simp only at hz
   split at hz
   ·rename_i hok
    split at hz
    ·cases hz
    ·cases hz
     exact ⟨Tx4.neat_snoc hG hok hp, ⟨m ++ [n], by rw [hm]; simp⟩, fun e => absurd e (by first | omega | (simp only; omega)), fun _ => by simp⟩
   ·cases hz
theorem many_lst {s : List UInt8} {rd : St -> Except Er (Nat × St)} {st : Nat} (hr : ∀ x y, Neat x.2 -> rd x = .ok y -> Lst x.2 y.2.2 y.1) : ∀ {k : Nat} {x : St} {y : List Nat × St}, Neat x.2 -> pMany s rd st k x = .ok y →
 Neat y.2.2 /\ (∃ m, y.2.2 = x.2 ++ m) /\ (y.2.2 = x.2 \/ ∃ i ∈ y.1, i + 1 = y.2.2.length /\ x.2.length <= i) := by
 intro k
 induction k with
 | zero => intro x y hG h; simp only [pMany] at h; cases h; exact ⟨hG, ⟨[], by simp⟩, .inl rfl⟩
 | succ k ih =>
   intro x y hG h
   simp only [pMany] at h
   obtain ⟨p1, h1, h⟩ := bind_ok h
   obtain ⟨u, h2, h⟩ := bind_ok h
   obtain ⟨z, h3, h⟩ := bind_ok h
   cases h
   have l1 : Lst x.2 u.2.2 u.1 := hr (p1, x.2) u hG h2
   obtain ⟨g, ⟨m, hm⟩, hx⟩ := ih l1.neat h3
   obtain ⟨m1, hm1⟩ := l1.more
   have hle : x.2.length <= u.2.2.length := by rw [hm1]; simp
   refine ⟨g, ⟨m1 ++ m, by rw [hm, hm1]; simp⟩, ?_⟩
   rcases hx with hx | ⟨i, hi, hi1, hi2⟩
   ·by_cases hlt : u.1 < x.2.length
    ·exact .inl (by rw [hx, l1.old hlt])
    ·exact .inr ⟨u.1, by simp, by rw [hx]; exact l1.new (by omega), by omega⟩
   ·exact .inr ⟨i, by simp [hi], hi1, by omega⟩
theorem set_parts (n : Nd) (is : List Nat) (w : Int) (hl : is.length = (parts n).length) (i : Nat) (hi : i ∈ is) : (i : Int) ∈ parts { setParts n is with w := w } := by
 obtain ⟨op, w0, k, a, b, c⟩ := n
 by_cases h1 : op = 2 \/ op = 17 \/ op = 19 \/ op = 20
 ·rw [parts_one h1] at hl
  match is, hl with
  | [x], _ =>
    rw [parts_one (by exact h1)]
    simp only [List.mem_cons, List.not_mem_nil, or_false] at hi
    simp only [setParts, List.mem_cons, List.not_mem_nil, or_false]
    simp
    omega
 ·by_cases h2 : 3 <= op /\ op <= 16
  ·rw [parts_two h2] at hl
   match is, hl with
   | [x, z], _ =>
     rw [parts_two (by exact h2)]
     simp only [List.mem_cons, List.not_mem_nil, or_false] at hi
     simp only [setParts, List.mem_cons, List.not_mem_nil, or_false]
     simp
     omega
  ·by_cases h3 : op = 18
   ·rw [parts_three h3] at hl
    match is, hl with
    | [x, z, u], _ =>
      rw [parts_three (by exact h3)]
      simp only [List.mem_cons, List.not_mem_nil, or_false] at hi
      simp only [setParts, List.mem_cons, List.not_mem_nil, or_false]
      simp
      omega
   ·rw [parts_none h1 h2 h3] at hl
    have his : is = [] := List.eq_nil_of_length_eq_zero hl
    subst his
    cases hi
theorem node_lst (s : List UInt8) : ∀ (f : Nat) (x : St) (y : Nat × St), Neat x.2 -> pNode s f x = .ok y -> Lst x.2 y.2.2 y.1 := by
 intro f
 induction f with
 | zero => intro x y _ h; cases h
 | succ f ih =>
   intro x y hG h
   simp only [pNode] at h
   split at h
   ·obtain ⟨z, h1, h⟩ := bind_ok h
    exact put_lst hG ⟨[], by simp⟩ (.inl rfl) h
   ·split at h
    ·obtain ⟨z, h1, h⟩ := bind_ok h
     exact put_lst hG ⟨[], by simp⟩ (.inl rfl) h
    ·obtain ⟨o, h1, h⟩ := bind_ok h
     obtain ⟨z, h2, h⟩ := bind_ok h
     obtain ⟨u, h3, h⟩ := bind_ok h
     unfold pParts at h3
     obtain ⟨m, h5, h3⟩ := bind_ok h3
     obtain ⟨q, h6, h3⟩ := bind_ok h3
     cases h3
     obtain ⟨g, hm, hx⟩ := many_lst (fun x y hG h => ih x y hG h) (x := (z.2, x.2)) hG h5
     refine put_lst g hm ?_ h
     rcases hx with hx | ⟨i, hi, hi1, hi2⟩
     ·exact .inl hx
     ·exact .inr ⟨i, set_parts _ _ _ (many_len h5) i hi, hi1, hi2⟩
theorem read_same (s : List UInt8) : pRead s = readL s := by
 unfold pRead readL
 split
 ·rfl
 ·have h := agree s (s.length + 1) 0 [] (by omega)
  have e : R s 0 [] = ⟨0, s, []⟩ := by unfold R; rw [List.drop_zero]
  rw [e] at h
  rw [h]
  cases hn : pNode s (s.length + 1) (0, []) with
  | error x => rfl
  | ok y =>
    have hl := node_lst s _ _ _ Tx4.neat_nil hn
    have h1 := hl.new (Nat.zero_le _)
    simp only [cv, Except.bind]
    have hr : (R s y.2.1 y.2.2).r.length = s.length - y.2.1 := List.length_drop
    have ht : (R s y.2.1 y.2.2).t.take (y.1 + 1) = y.2.2 := by
     show y.2.2.take (y.1 + 1) = _
     exact List.take_of_length_le (by omega)
    rw [hr, ht]
    by_cases hlt : y.2.1 < s.length
    ·rw [if_pos hlt, if_neg (by omega)]
     rfl
    ·rw [if_neg hlt, if_pos (by omega)]
end Px3
namespace Pr13
open Go.RowKit
open Nd0 Nd3 Tm0 Tx0 Tx1 Ss0 Ss1 Tb0 Tb1 Px0 Pr4 Pr7 Pr12 Ic3
theorem iNodeAll : ∀ f, INode f := by
 intro f
 induction f with
 | zero => intro w B b S p t bm F h hlow hg hs hfu; omega
 | succ f ih => exact iNodeR f ih
theorem iReadTerm : IReadTerm := by
 intro w S hT hS
 refine (iReadP iNodeAll w S hT hS).mono ?_
 intro e w' h
 unfold PPost at h
 rw [Px3.read_same] at h
 exact h
end Pr13
end Go.Proofs.YtiaimhgfimhepaaGreatDoor
