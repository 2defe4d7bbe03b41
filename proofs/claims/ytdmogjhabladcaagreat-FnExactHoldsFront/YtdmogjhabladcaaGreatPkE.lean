/- Small texts of mine, one behind the other. -/
import Derived.Test.YtdmogjhabladcaaGreatPkA
/- Texts of terms as plain data: numbers in decimal digits, words, the text of a node. -/
namespace Go.Proofs.YtdmogjhabladcaaGreat.Tx0
open Nd0 Pl1 Tm0 Tm1

/-- The digits of a number, none for 0. -/
def digs (n : Nat) : List UInt8 := if n = 0 then [] else digs (n / 10) ++ [UInt8.ofNat (48 + n % 10)]
termination_by n
decreasing_by omega
/-- A number in decimal digits. -/
def dec (n : Nat) : List UInt8 := if n = 0 then [48] else digs n
theorem digs_zero : digs 0 = [] := by unfold digs; rfl
theorem digs_pos {n : Nat} (h : 0 < n) : digs n = digs (n / 10) ++ [UInt8.ofNat (48 + n % 10)] := by
  rw [digs.eq_def, if_neg (by omega)]
theorem dig_nat (d : Nat) (h : d < 10) : (UInt8.ofNat (48 + d)).toNat = 48 + d := by
  rw [UInt8.toNat_ofNat']; exact Nat.mod_eq_of_lt (by omega)
/-- All digits. -/
def isDig (c : UInt8) : Bool := decide (48 ≤ c.toNat ∧ c.toNat ≤ 57)
theorem digs_all (n : Nat) : ∀ c ∈ digs n, isDig c = true := by
  induction n using Nat.strongRecOn with
  | ind n ih =>
    intro c hc
    by_cases h : n = 0
    · subst h; rw [digs_zero] at hc; cases hc
    · rw [digs_pos (by omega)] at hc
      rcases List.mem_append.1 hc with h1 | h1
      · exact ih (n / 10) (by omega) c h1
      · have e : c = UInt8.ofNat (48 + n % 10) := by simpa using h1
        subst e
        unfold isDig
        rw [dig_nat _ (by omega)]
        simp; omega
theorem digs_len (k : Nat) : ∀ n, n < 10 ^ k → (digs n).length ≤ k := by
  induction k with
  | zero => intro n h; have e : n = 0 := by omega
            subst e; rw [digs_zero]; exact Nat.le_refl _
  | succ k ih =>
    intro n h
    by_cases e : n = 0
    · subst e; rw [digs_zero]; exact Nat.zero_le _
    · rw [digs_pos (by omega), List.length_append]
      have := ih (n / 10) (by rw [Nat.pow_succ] at h; omega)
      simp; omega
theorem digs_one {n : Nat} (h : 0 < n) : 1 ≤ (digs n).length := by rw [digs_pos h]; simp
theorem dec_all (n : Nat) : ∀ c ∈ dec n, isDig c = true := by
  unfold dec
  split
  · intro c hc; have : c = 48 := by simpa using hc
    subst this; rfl
  · exact digs_all n
theorem dec_len {n : Nat} (h : n < 10 ^ 9) : 1 ≤ (dec n).length ∧ (dec n).length ≤ 9 := by
  unfold dec
  split
  · simp
  · exact ⟨digs_one (by omega), digs_len 9 n h⟩
/-- What digits are worth. -/
def valL (s : List UInt8) : Nat := s.foldl (fun n c => 10 * n + (c.toNat - 48)) 0
theorem valL_snoc (s : List UInt8) (c : UInt8) : valL (s ++ [c]) = 10 * valL s + (c.toNat - 48) := by
  unfold valL; rw [List.foldl_append]; rfl
theorem val_digs (n : Nat) : valL (digs n) = n := by
  induction n using Nat.strongRecOn with
  | ind n ih =>
    by_cases h : n = 0
    · subst h; rw [digs_zero]; rfl
    · rw [digs_pos (by omega), valL_snoc, ih (n / 10) (by omega), dig_nat _ (by omega)]
      omega
theorem val_dec (n : Nat) : valL (dec n) = n := by
  unfold dec
  split
  · rename_i h; subst h; rfl
  · exact val_digs n
theorem val_lt (s : List UInt8) (h : ∀ c ∈ s, isDig c = true) : valL s < 10 ^ s.length := by
  have key : ∀ (k : Nat) (s : List UInt8), s.length = k → (∀ c ∈ s, isDig c = true) → valL s < 10 ^ k := by
    intro k
    induction k with
    | zero => intro s hs _; have : s = [] := List.eq_nil_of_length_eq_zero hs
              subst this; decide
    | succ k ih =>
      intro s hs hd
      have hne : s ≠ [] := by intro e; rw [e] at hs; simp at hs
      have e := (List.dropLast_concat_getLast hne).symm
      have hl : s.dropLast.length = k := by rw [List.length_dropLast]; omega
      have h1 := ih s.dropLast hl (fun c hc => hd c (List.dropLast_subset s hc))
      have h2 := hd _ (List.getLast_mem hne)
      rw [e, valL_snoc]
      unfold isDig at h2
      simp at h2
      rw [Nat.pow_succ]
      omega
  exact key _ s rfl h
/-- A number of at most nine digits without needless noughts ahead. -/
def numL (s : List UInt8) : Option Nat :=
  if s.length = 0 ∨ 9 < s.length then none
  else if s.all isDig then (if dec (valL s) = s then some (valL s) else none) else none
theorem num_dec {n : Nat} (h : n < 10 ^ 9) : numL (dec n) = some n := by
  have hl := dec_len h
  unfold numL
  rw [if_neg (by omega), if_pos (List.all_eq_true.2 (dec_all n)), val_dec, if_pos rfl]
theorem num_some {s : List UInt8} {n : Nat} (h : numL s = some n) : dec n = s ∧ n < 10 ^ 9 ∧ s.length ≤ 9 := by
  unfold numL at h
  split at h
  · cases h
  · rename_i hl
    split at h
    · rename_i ha
      split at h
      · rename_i hd
        cases h
        have hv := val_lt s (List.all_eq_true.1 ha)
        exact ⟨hd, Nat.lt_of_lt_of_le hv (Nat.pow_le_pow_right (by omega) (by omega)), by omega⟩
      · cases h
    · cases h

/-- The two numbers of a word with a head and a colon between them. -/
def twoL (head : UInt8) : List UInt8 → Option (Nat × Nat)
  | [] => none
  | c :: w => if c = head then
      match w.dropWhile (fun x => x != 58) with
      | [] => none
      | _ :: y => match numL (w.takeWhile (fun x => x != 58)), numL y with
        | some a, some b => some (a, b)
        | _, _ => none
    else none

/-- The words of the operators of two parts. -/
def wordsL : List (List UInt8) := [[97, 110, 100], [111, 114], [120, 111, 114], [97, 100, 100], [115, 117, 98], [109, 117, 108], [100, 105, 118], [114, 101, 109], [115, 104, 108], [115, 104, 114], [61], [60], [115, 60], [106, 111, 105, 110]]
def wNot : List UInt8 := [110, 111, 116]
def wSlice : List UInt8 := [115, 108, 105, 99, 101]
def wIf : List UInt8 := [105, 102]
def wAll : List UInt8 := [97, 108, 108]
def wSome : List UInt8 := [115, 111, 109, 101]
/-- The head of a node in brackets: its word, and its numbers. -/
def headL (n : Nd) : List UInt8 :=
  if n.op = 2 then wNot
  else if n.op = 17 then wSlice ++ [32] ++ dec n.k.toNat ++ [32] ++ dec n.w.toNat
  else if n.op = 18 then wIf
  else if n.op = 19 then wAll ++ [32, 118] ++ dec n.k.toNat ++ [58] ++ dec n.b.toNat
  else if n.op = 20 then wSome ++ [32, 118] ++ dec n.k.toNat ++ [58] ++ dec n.b.toNat
  else wordsL.getD (n.op - 3).toNat []
def txt (ts : List (List UInt8)) (p : Int) : List UInt8 := ts.getD p.toNat []
/-- The parts' texts behind a head, a blank ahead of each; nothing once one is missing. -/
def withParts (ts : List (List UInt8)) : List UInt8 → List Int → Option (List UInt8)
  | h, [] => some h
  | h, p :: ps => if txt ts p = [] then none else withParts ts (h ++ [32] ++ txt ts p) ps
/-- The text of a node whose parts have texts; none once it would be too long. -/
def showN (n : Nd) (ts : List (List UInt8)) : List UInt8 :=
  if n.op = 0 then [35] ++ dec n.w.toNat ++ [58] ++ dec n.k.toNat
  else if n.op = 1 then [118] ++ dec n.k.toNat ++ [58] ++ dec n.w.toNat
  else match withParts ts (headL n) (parts n) with
    | none => []
    | some h => if 4000 < h.length + 2 then [] else [40] ++ h ++ [41]
def showTo (l : List Nd) : Nat → List (List UInt8)
  | 0 => []
  | k + 1 => showTo l k ++ [showN (nth l k) (showTo l k)]
theorem showTo_length (l : List Nd) (k : Nat) : (showTo l k).length = k := by
  induction k with
  | zero => rfl
  | succ k ih => show (showTo l k ++ [_]).length = _; rw [List.length_append, ih]; rfl
/-- The text of the root; none where there is none. -/
def showL (l : List Nd) : List UInt8 := if termOk l then txt (showTo l l.length) ((l.length : Int) - 1) else []

/-- The first place of a node in a list. -/
def placeOf (t : List Nd) (n : Nd) : Option Nat := (List.range t.length).find? fun i => decide ((nth t i).op = n.op ∧ (nth t i).w = n.w ∧ (nth t i).k = n.k ∧ (nth t i).a = n.a ∧ (nth t i).b = n.b ∧ (nth t i).c = n.c)
/-- A node put in, from byte p on: the list, and its place; or why it can't be. -/
def putL (t : List Nd) (n : Nd) (p : Nat) : Except (Int × Nat) (List Nd × Nat) :=
  match placeOf t n with
  | some i => .ok (t, i)
  | none => if nodeOk (t ++ [n]) t.length then (if 80 < t.length + 1 then .error (4, p) else .ok (t ++ [n], t.length)) else .error (3, p)
def inWord (c : UInt8) : Bool := c != 32 && c != 41
/-- The operator of a word and how many parts it takes. -/
def opOf (w : List UInt8) : Option (Int × Nat) :=
  match (List.range 14).find? (fun i => decide (wordsL.getD i [] = w)) with
  | some i => some (3 + (i : Int), 2)
  | none => if w = wNot then some (2, 1) else if w = wSlice then some (17, 1) else if w = wIf then some (18, 3) else if w = wAll then some (19, 1) else if w = wSome then some (20, 1) else none
/-- A reader of a text: the place, what is left, the nodes so far. -/
structure Rd where
  p : Nat
  r : List UInt8
  t : List Nd
def Rd.word (st : Rd) : List UInt8 := st.r.takeWhile inWord
def Rd.past (st : Rd) : Rd := ⟨st.p + (st.r.takeWhile inWord).length, st.r.dropWhile inWord, st.t⟩
def Rd.blank (st : Rd) : Option Rd := match st.r with
  | [] => none
  | c :: r => if c = 32 then some ⟨st.p + 1, r, st.t⟩ else none
/-- The numbers behind the word of an operator: those of a slice, of a quantifier, none. -/
def numsL (op : Int) (st : Rd) : Option (Rd × Nd) :=
  if op = 17 then
    match st.blank with
    | none => none
    | some s1 => match numL s1.word with
      | none => none
      | some k => match s1.past.blank with
        | none => none
        | some s2 => match numL s2.word with
          | none => none
          | some w => some (s2.past, ⟨op, w, k, 0, 0, 0⟩)
  else if op = 19 ∨ op = 20 then
    match st.blank with
    | none => none
    | some s1 => match twoL 118 s1.word with
      | none => none
      | some (k, b) => some (s1.past, ⟨op, 1, k, 0, b, 0⟩)
  else some (st, ⟨op, 0, 0, 0, 0, 0⟩)
/-- So many parts, a blank ahead of each. -/
def partsL (rd : Rd → Except (Int × Nat) (Rd × Nat)) (p0 : Nat) : Nat → Rd → Except (Int × Nat) (Rd × List Nat)
  | 0, st => .ok (st, [])
  | c + 1, st => match st.blank with
    | none => .error (2, p0)
    | some s1 => match rd s1 with
      | .error e => .error e
      | .ok (s2, i) => match partsL rd p0 c s2 with
        | .error e => .error e
        | .ok (s3, is) => .ok (s3, i :: is)
/-- The node that a word, its numbers and its parts make. -/
def madeL (n : Nd) (t : List Nd) (is : List Nat) : Nd :=
  let a : Int := is.getD 0 0
  let b : Int := if 1 < is.length then (is.getD 1 0 : Nat) else n.b
  let c : Int := if 2 < is.length then (is.getD 2 0 : Nat) else 0
  let w : Int := if n.op = 17 ∨ n.op = 19 ∨ n.op = 20 then n.w
    else if 13 ≤ n.op ∧ n.op ≤ 15 then 1
    else if n.op = 16 then width t a + width t b
    else if n.op = 18 then width t b
    else width t a
  ⟨n.op, w, n.k, a, b, c⟩
/-- A node in brackets, from byte p0 on; st stands behind the bracket. -/
def innerL (rd : Rd → Except (Int × Nat) (Rd × Nat)) (p0 : Nat) (st : Rd) : Except (Int × Nat) (Rd × Nat) :=
  match opOf st.word with
  | none => .error (2, p0)
  | some (op, count) => match numsL op st.past with
    | none => .error (2, p0)
    | some (s1, n) => match partsL rd p0 count s1 with
      | .error e => .error e
      | .ok (s2, is) => match s2.r with
        | [] => .error (2, p0)
        | c :: r => if c = 41 then
            match putL s2.t (madeL n s2.t is) p0 with
            | .error e => .error e
            | .ok (t, i) => .ok (⟨s2.p + 1, r, t⟩, i)
          else .error (2, p0)
def leafL (st : Rd) : Except (Int × Nat) (Rd × Nat) :=
  match twoL 35 st.word with
  | some (a, b) => match putL st.t ⟨0, a, b, 0, 0, 0⟩ st.p with
    | .error e => .error e
    | .ok (t, i) => .ok (⟨st.past.p, st.past.r, t⟩, i)
  | none => match twoL 118 st.word with
    | some (a, b) => match putL st.t ⟨1, b, a, 0, 0, 0⟩ st.p with
      | .error e => .error e
      | .ok (t, i) => .ok (⟨st.past.p, st.past.r, t⟩, i)
    | none => .error (2, st.p)
def opens (r : List UInt8) : Bool := match r with
  | [] => false
  | c :: _ => c == 40
/-- A node: the reader behind it, and its place. f: more than the brackets that are left. -/
def rdL : Nat → Rd → Except (Int × Nat) (Rd × Nat)
  | 0, _ => .error (2, 0)
  | f + 1, st => if opens st.r then innerL (rdL f) st.p ⟨st.p + 1, st.r.tail, st.t⟩ else leafL st
/-- What a text is read as: the nodes, the code, the byte. -/
def readL (s : List UInt8) : List Nd × Int × Int :=
  if 4000 < s.length then ([], 1, 0)
  else match rdL (s.length + 1) ⟨0, s, []⟩ with
    | .error (c, p) => ([], c, p)
    | .ok (st, i) => if st.r.length = 0 then (st.t.take (i + 1), 0, 0) else ([], 5, st.p)
def canonL (l : List Nd) : List Nd := if (showL l).length = 0 then [] else (readL (showL l)).1
def sameB (l m : List Nd) : Bool := decide (¬ (showL l).length = 0) && decide (¬ (showL m).length = 0) && decide (showL l = showL m)

end Go.Proofs.YtdmogjhabladcaaGreat.Tx0

/- The reader of a text is local: what it took it takes again, whatever stands behind; where it fails. -/
namespace Go.Proofs.YtdmogjhabladcaaGreat.Tx1
open Nd0 Pl1 Tm0 Tm1 Tx0

/-- Nothing stands there, or a blank or a closing bracket. -/
def Bd (q : List UInt8) : Prop := q = [] ∨ ∃ c q', q = c :: q' ∧ inWord c = false
theorem bd_nil : Bd [] := .inl rfl
theorem bd_blank (q : List UInt8) : Bd (32 :: q) := .inr ⟨32, q, rfl, rfl⟩
theorem bd_shut (q : List UInt8) : Bd (41 :: q) := .inr ⟨41, q, rfl, rfl⟩
theorem take_word {w q : List UInt8} (hw : ∀ c ∈ w, inWord c = true) (hq : Bd q) : (w ++ q).takeWhile inWord = w ∧ (w ++ q).dropWhile inWord = q := by
  induction w with
  | nil =>
    rcases hq with rfl | ⟨c, q', rfl, hc⟩
    · exact ⟨rfl, rfl⟩
    · simp [hc]
  | cons c w ih =>
    have h1 := hw c (by simp)
    have := ih (fun d hd => hw d (by simp [hd]))
    simp [h1, this.1, this.2]
theorem word_all (r : List UInt8) : ∀ c ∈ r.takeWhile inWord, inWord c = true := by
  induction r with
  | nil => intro c hc; cases hc
  | cons d r ih =>
    intro c hc
    rw [List.takeWhile_cons] at hc
    split at hc
    · rename_i h
      rcases List.mem_cons.1 hc with e | e
      · subst e; exact h
      · exact ih c e
    · cases hc
theorem word_past (st : Rd) : st.r = st.word ++ st.past.r := (List.takeWhile_append_dropWhile (p := inWord) (l := st.r)).symm
theorem past_p (st : Rd) : st.past.p = st.p + st.word.length := rfl
theorem past_t (st : Rd) : st.past.t = st.t := rfl
theorem word_mk {w q : List UInt8} (p : Nat) (t : List Nd) (hw : ∀ c ∈ w, inWord c = true) (hq : Bd q) : (Rd.mk p (w ++ q) t).word = w ∧ (Rd.mk p (w ++ q) t).past = ⟨p + w.length, q, t⟩ := by
  have h := take_word hw hq
  unfold Rd.word Rd.past
  simp only
  rw [h.1, h.2]
  exact ⟨rfl, rfl⟩
theorem blank_some {st s1 : Rd} (h : st.blank = some s1) : st.r = 32 :: s1.r ∧ s1.p = st.p + 1 ∧ s1.t = st.t := by
  unfold Rd.blank at h
  split at h
  · cases h
  · rename_i c r e
    split at h
    · rename_i hc
      cases h
      subst hc
      exact ⟨e, rfl, rfl⟩
    · cases h
theorem blank_mk (p : Nat) (q : List UInt8) (t : List Nd) : (Rd.mk p (32 :: q) t).blank = some ⟨p + 1, q, t⟩ := rfl
/-- What of a text the numbers behind an operator's word take. -/
theorem nums_local {op : Int} {st s1 : Rd} {n : Nd} (h : numsL op st = some (s1, n)) :
    ∃ x, st.r = x ++ s1.r ∧ s1.p = st.p + x.length ∧ s1.t = st.t ∧ (∀ y, Bd y → Bd (x ++ y)) ∧ ∀ p q t, Bd q → numsL op ⟨p, x ++ q, t⟩ = some (⟨p + x.length, q, t⟩, n) := by
  unfold numsL at h
  split at h
  · rename_i hop
    split at h
    · cases h
    · rename_i s2 h2
      split at h
      · cases h
      · rename_i k hk
        split at h
        · cases h
        · rename_i s3 h3
          split at h
          · cases h
          · rename_i w hw
            cases h
            obtain ⟨a1, a2, a3⟩ := blank_some h2
            obtain ⟨b1, b2, b3⟩ := blank_some h3
            have c1 := word_past s2
            have c2 := word_past s3
            refine ⟨32 :: (s2.word ++ 32 :: s3.word), ?_, ?_, ?_, ?_, ?_⟩
            · rw [a1, c1, b1, c2]; simp
            · rw [past_p, b2, past_p, a2]; simp; omega
            · rw [past_t, b3, past_t, a3]
            · intro y _; exact bd_blank _
            · intro p q t hq
              have e1 : (32 :: (s2.word ++ 32 :: s3.word)) ++ q = 32 :: (s2.word ++ (32 :: (s3.word ++ q))) := by simp
              unfold numsL
              rw [if_pos hop, e1, blank_mk]
              simp only
              have m1 := word_mk (p + 1) t (word_all s2.r) (bd_blank (s3.word ++ q))
              have m2 := word_mk (p + 1 + s2.word.length + 1) t (word_all s3.r) hq
              have n1 : (Rd.mk (p + 1) (s2.word ++ 32 :: (s3.word ++ q)) t).word = s2.word := m1.1
              have n2 : (Rd.mk (p + 1) (s2.word ++ 32 :: (s3.word ++ q)) t).past = ⟨p + 1 + s2.word.length, 32 :: (s3.word ++ q), t⟩ := m1.2
              rw [n1, n2, hk, blank_mk]
              simp only
              have n3 : (Rd.mk (p + 1 + s2.word.length + 1) (s3.word ++ q) t).word = s3.word := m2.1
              have n4 : (Rd.mk (p + 1 + s2.word.length + 1) (s3.word ++ q) t).past = ⟨p + 1 + s2.word.length + 1 + s3.word.length, q, t⟩ := m2.2
              rw [n3, n4, hw]
              simp only
              congr 3
              simp; omega
  · rename_i hop
    split at h
    · rename_i hq2
      split at h
      · cases h
      · rename_i s2 h2
        split at h
        · cases h
        · rename_i k b hk
          cases h
          obtain ⟨a1, a2, a3⟩ := blank_some h2
          have c1 := word_past s2
          refine ⟨32 :: s2.word, ?_, ?_, ?_, ?_, ?_⟩
          · rw [a1, c1]; rfl
          · rw [past_p, a2]; simp; omega
          · rw [past_t, a3]
          · intro y _; exact bd_blank _
          · intro p q t hq
            have e1 : (32 :: s2.word) ++ q = 32 :: (s2.word ++ q) := rfl
            have m1 := word_mk (p + 1) t (word_all s2.r) hq
            have n1 : (Rd.mk (p + 1) (s2.word ++ q) t).word = s2.word := m1.1
            have n2 : (Rd.mk (p + 1) (s2.word ++ q) t).past = ⟨p + 1 + s2.word.length, q, t⟩ := m1.2
            unfold numsL
            rw [if_neg hop, if_pos hq2, e1, blank_mk]
            simp only
            rw [n1, n2, hk]
            simp only
            congr 3
            simp; omega
    · rename_i hq2
      cases h
      refine ⟨[], rfl, rfl, rfl, fun y hy => hy, fun p q t _ => ?_⟩
      unfold numsL
      rw [if_neg hop, if_neg hq2]
      rfl
theorem opens_app {x : List UInt8} (q : List UInt8) (h : x ≠ []) : opens (x ++ q) = opens x := by
  cases x with
  | nil => exact absurd rfl h
  | cons c x => rfl
/-- What a reader did: it took x of the text, and takes it again whatever stands behind. -/
def Local (f : Nat) : Prop := ∀ (st st' : Rd) (i : Nat), rdL f st = .ok (st', i) →
  ∃ x, st.r = x ++ st'.r ∧ st'.p = st.p + x.length ∧ x ≠ [] ∧ ∀ g q, x.length < g → (Bd q ∨ opens x = true) → rdL g ⟨st.p, x ++ q, st.t⟩ = .ok (⟨st'.p, q, st'.t⟩, i)
theorem parts_local {f : Nat} (hf : Local f) (p0 : Nat) : ∀ (c : Nat) (st s2 : Rd) (is : List Nat), partsL (rdL f) p0 c st = .ok (s2, is) →
    ∃ x, st.r = x ++ s2.r ∧ s2.p = st.p + x.length ∧ (∀ y, Bd y → Bd (x ++ y)) ∧ ∀ g q, x.length < g → Bd q → partsL (rdL g) p0 c ⟨st.p, x ++ q, st.t⟩ = .ok (⟨s2.p, q, s2.t⟩, is) := by
  intro c
  induction c with
  | zero =>
    intro st s2 is h
    simp only [partsL] at h
    cases h
    exact ⟨[], rfl, rfl, fun y hy => hy, fun g q _ _ => rfl⟩
  | succ c ih =>
    intro st s2 is h
    simp only [partsL] at h
    split at h
    · cases h
    · rename_i s1 hb
      split at h
      · cases h
      · rename_i s3 i hr
        split at h
        · cases h
        · rename_i s4 is' hp
          cases h
          obtain ⟨a1, a2, a3⟩ := blank_some hb
          obtain ⟨x1, b1, b2, b3, b4⟩ := hf s1 s3 i hr
          obtain ⟨x2, c1, c2, c3, c4⟩ := ih s3 s2 is' hp
          refine ⟨32 :: (x1 ++ x2), ?_, ?_, fun y _ => bd_blank _, ?_⟩
          · rw [a1, b1, c1]; simp
          · rw [c2, b2, a2]; simp; omega
          · intro g q hg hq
            simp only [List.length_cons, List.length_append] at hg
            have e1 : (32 :: (x1 ++ x2)) ++ q = 32 :: (x1 ++ (x2 ++ q)) := by simp
            have k1 := b4 g (x2 ++ q) (by omega) (.inl (c3 q hq))
            have k2 := c4 g q (by omega) hq
            rw [a2, a3] at k1
            simp only [partsL]
            rw [e1, blank_mk]
            simp only
            rw [k1]
            simp only
            rw [k2]
theorem inner_local {f : Nat} (hf : Local f) (st st' : Rd) (p0 i : Nat) (h : innerL (rdL f) p0 st = .ok (st', i)) :
    ∃ x, st.r = x ++ st'.r ∧ st'.p = st.p + x.length ∧ ∀ g q, x.length < g → innerL (rdL g) p0 ⟨st.p, x ++ q, st.t⟩ = .ok (⟨st'.p, q, st'.t⟩, i) := by
  unfold innerL at h
  split at h
  · cases h
  · rename_i op count ho
    split at h
    · cases h
    · rename_i s1 n hn
      split at h
      · cases h
      · rename_i s2 is hp
        split at h
        · cases h
        · rename_i c r hr
          split at h
          · rename_i hc
            subst hc
            split at h
            · cases h
            · rename_i t j hput
              cases h
              have w1 := word_past st
              obtain ⟨x1, a1, a2, a3, a4, a5⟩ := nums_local hn
              obtain ⟨x2, b1, b2, b3, b4⟩ := parts_local hf p0 count s1 s2 is hp
              refine ⟨st.word ++ (x1 ++ (x2 ++ [41])), ?_, ?_, ?_⟩
              · rw [w1, a1, b1, hr]; simp
              · show s2.p + 1 = _
                rw [b2, a2, past_p]; simp; omega
              · intro g q hg
                simp only [List.length_cons, List.length_append, List.length_nil] at hg
                have e1 : (st.word ++ (x1 ++ (x2 ++ [41]))) ++ q = st.word ++ (x1 ++ (x2 ++ (41 :: q))) := by simp
                have hb2 : Bd (x2 ++ (41 :: q)) := b3 _ (bd_shut q)
                have hb1 : Bd (x1 ++ (x2 ++ (41 :: q))) := a4 _ hb2
                have m1 := word_mk st.p st.t (word_all st.r) hb1
                have n1 : (Rd.mk st.p (st.word ++ (x1 ++ (x2 ++ (41 :: q)))) st.t).word = st.word := m1.1
                have n2 : (Rd.mk st.p (st.word ++ (x1 ++ (x2 ++ (41 :: q)))) st.t).past = ⟨st.p + st.word.length, x1 ++ (x2 ++ (41 :: q)), st.t⟩ := m1.2
                have k1 := a5 (st.p + st.word.length) (x2 ++ (41 :: q)) st.t hb2
                have k2 := b4 g (41 :: q) (by omega) (bd_shut q)
                rw [a2, past_p, a3, past_t] at k2
                unfold innerL
                rw [e1, n1, ho]
                simp only
                rw [n2, k1]
                simp only
                rw [k2]
                simp only [if_true]
                rw [hput]
          · cases h
theorem leaf_local (st st' : Rd) (i : Nat) (h : leafL st = .ok (st', i)) :
    st.r = st.word ++ st'.r ∧ st'.p = st.p + st.word.length ∧ st.word ≠ [] ∧ ∀ q, Bd q → leafL ⟨st.p, st.word ++ q, st.t⟩ = .ok (⟨st'.p, q, st'.t⟩, i) := by
  have w1 := word_past st
  have key : ∀ q, Bd q → (Rd.mk st.p (st.word ++ q) st.t).word = st.word ∧ (Rd.mk st.p (st.word ++ q) st.t).past = ⟨st.p + st.word.length, q, st.t⟩ := fun q hq => word_mk st.p st.t (word_all st.r) hq
  have hne : st.word ≠ [] := by
    intro e
    unfold leafL at h
    rw [e] at h
    simp [twoL] at h
  unfold leafL at h
  split at h
  · rename_i a b h2
    split at h
    · cases h
    · rename_i t j hput
      cases h
      refine ⟨w1, rfl, hne, fun q hq => ?_⟩
      obtain ⟨n1, n2⟩ := key q hq
      unfold leafL
      rw [n1, n2, h2]
      simp only
      rw [hput]
      rfl
  · rename_i h1
    split at h
    · rename_i a b h2
      split at h
      · cases h
      · rename_i t j hput
        cases h
        refine ⟨w1, rfl, hne, fun q hq => ?_⟩
        obtain ⟨n1, n2⟩ := key q hq
        unfold leafL
        rw [n1, n2, h1, h2]
        simp only
        rw [hput]
        rfl
    · cases h
theorem opens_cons {r : List UInt8} (h : opens r = true) : r = 40 :: r.tail := by
  cases r with
  | nil => cases h
  | cons c r => have : c = 40 := by simpa [opens] using h
                subst this; rfl
theorem word_opens (st : Rd) (h : opens st.r = false) (hw : st.word ≠ []) : opens st.word = false := by
  have w1 := word_past st
  rw [w1, opens_app _ hw] at h
  exact h
theorem rd_local : ∀ f, Local f := by
  intro f
  induction f with
  | zero => intro st st' i h; cases h
  | succ f ih =>
    intro st st' i h
    simp only [rdL] at h
    cases ho : opens st.r
    · rw [ho] at h
      simp only [Bool.false_eq_true, if_false] at h
      obtain ⟨a1, a2, a3, a4⟩ := leaf_local st st' i h
      refine ⟨st.word, a1, a2, a3, fun g q hg hq => ?_⟩
      have hof := word_opens st ho a3
      rw [hof] at hq
      have hq' : Bd q := by rcases hq with h | h
                            · exact h
                            · cases h
      cases g with
      | zero => omega
      | succ g =>
        simp only [rdL]
        rw [opens_app q a3, hof]
        simp only [Bool.false_eq_true, if_false]
        exact a4 q hq'
    · rw [ho, if_pos rfl] at h
      have hc := opens_cons ho
      obtain ⟨x, a1, a2, a3⟩ := inner_local ih _ _ _ _ h
      refine ⟨40 :: x, ?_, ?_, by simp, ?_⟩
      · rw [hc]; show 40 :: st.r.tail = 40 :: (x ++ st'.r); rw [← a1]
      · rw [a2]; simp; omega
      · intro g q hg _
        cases g with
        | zero => omega
        | succ g =>
          simp only [List.length_cons] at hg
          have k := a3 g q (by omega)
          simp only [rdL]
          have : opens ((40 :: x) ++ q) = true := rfl
          rw [if_pos this]
          exact k
/-- Nothing is lost: what is behind and what is left make up the text. -/
theorem rd_sum {f : Nat} {st st' : Rd} {i : Nat} (h : rdL f st = .ok (st', i)) : st'.p + st'.r.length = st.p + st.r.length := by
  obtain ⟨x, a1, a2, _, _⟩ := rd_local f st st' i h
  rw [a1, a2, List.length_append]; omega
theorem put_err {t : List Nd} {n : Nd} {p : Nat} {e : Int × Nat} (h : putL t n p = .error e) : (e.1 = 3 ∨ e.1 = 4) ∧ e.2 = p := by
  unfold putL at h
  split at h
  · cases h
  · split at h
    · split at h
      · cases h; exact ⟨.inr rfl, rfl⟩
      · cases h
    · cases h; exact ⟨.inl rfl, rfl⟩
theorem put_ok {t t' : List Nd} {n : Nd} {p i : Nat} (h : putL t n p = .ok (t', i)) : i < t'.length ∧ ∃ m, t' = t ++ m := by
  unfold putL at h
  split at h
  · rename_i j hj
    cases h
    have := List.mem_of_find?_eq_some hj
    exact ⟨List.mem_range.1 this, [], by simp⟩
  · split at h
    · split at h
      · cases h
      · cases h; exact ⟨by simp, _, rfl⟩
    · cases h
/-- Where and how a reader fails. -/
def Fails (f : Nat) : Prop := ∀ (st : Rd) (e : Int × Nat), rdL f st = .error e → (e.1 = 2 ∨ e.1 = 3 ∨ e.1 = 4) ∧ e.2 ≤ st.p + st.r.length
theorem parts_fail {f : Nat} (hf : Fails f) (p0 : Nat) : ∀ (c : Nat) (st : Rd) (e : Int × Nat), partsL (rdL f) p0 c st = .error e → p0 ≤ st.p → (e.1 = 2 ∨ e.1 = 3 ∨ e.1 = 4) ∧ e.2 ≤ st.p + st.r.length := by
  intro c
  induction c with
  | zero => intro st e h; simp only [partsL] at h; cases h
  | succ c ih =>
    intro st e h hp
    simp only [partsL] at h
    split at h
    · cases h; exact ⟨.inl rfl, by simp only; omega⟩
    · rename_i s1 hb
      obtain ⟨a1, a2, a3⟩ := blank_some hb
      have hs : s1.p + s1.r.length = st.p + st.r.length := by rw [a1, a2]; simp; omega
      split at h
      · rename_i e' hr
        cases h
        have := hf s1 e hr
        rw [hs] at this; exact this
      · rename_i s3 i hr
        have h3 := rd_sum hr
        split at h
        · rename_i e' hp'
          cases h
          have hle : p0 ≤ s3.p := by
            obtain ⟨x, _, b2, _, _⟩ := rd_local f _ _ _ hr
            omega
          have := ih s3 e hp' hle
          rw [h3, hs] at this; exact this
        · cases h
theorem rd_fail : ∀ f, Fails f := by
  intro f
  induction f with
  | zero => intro st e h; simp only [rdL] at h; cases h; exact ⟨.inl rfl, Nat.zero_le _⟩
  | succ f ih =>
    intro st e h
    simp only [rdL] at h
    split at h
    · rename_i ho
      have hc := opens_cons ho
      have hs : st.p + 1 + st.r.tail.length = st.p + st.r.length := by
        have : st.r.length = st.r.tail.length + 1 := by rw [hc]; rfl
        omega
      unfold innerL at h
      split at h
      · cases h; exact ⟨.inl rfl, by simp only; omega⟩
      · split at h
        · cases h; exact ⟨.inl rfl, by simp only; omega⟩
        · rename_i s1 n hn
          obtain ⟨x1, a1, a2, a3, a4, a5⟩ := nums_local hn
          have w1 := word_past ⟨st.p + 1, st.r.tail, st.t⟩
          have hs1 : s1.p + s1.r.length = st.p + st.r.length := by
            have e1 : st.r.tail.length = (Rd.mk (st.p + 1) st.r.tail st.t).word.length + (x1.length + s1.r.length) := by
              have := congrArg List.length w1
              rw [a1, List.length_append, List.length_append] at this
              exact this
            have e2 : s1.p = st.p + 1 + (Rd.mk (st.p + 1) st.r.tail st.t).word.length + x1.length := a2
            omega
          split at h
          · rename_i e' hp
            cases h
            have hle : st.p ≤ s1.p := by
              have e2 : s1.p = st.p + 1 + (Rd.mk (st.p + 1) st.r.tail st.t).word.length + x1.length := a2
              omega
            have := parts_fail ih st.p _ s1 e hp hle
            rw [hs1] at this; exact this
          · split at h
            · cases h; exact ⟨.inl rfl, by simp only; omega⟩
            · split at h
              · split at h
                · rename_i e' hput
                  cases h
                  have := put_err hput
                  exact ⟨.inr this.1, by rw [this.2]; omega⟩
                · cases h
              · cases h; exact ⟨.inl rfl, by simp only; omega⟩
    · unfold leafL at h
      split at h
      · split at h
        · rename_i e' hput
          cases h
          have := put_err hput
          exact ⟨.inr this.1, by rw [this.2]; omega⟩
        · cases h
      · split at h
        · split at h
          · rename_i e' hput
            cases h
            have := put_err hput
            exact ⟨.inr this.1, by rw [this.2]; omega⟩
          · cases h
        · cases h; exact ⟨.inl rfl, by simp only; omega⟩
theorem rd_place {f : Nat} {st st' : Rd} {i : Nat} (h : rdL f st = .ok (st', i)) : i < st'.t.length := by
  cases f with
  | zero => cases h
  | succ f =>
    simp only [rdL] at h
    split at h
    · unfold innerL at h
      split at h
      · cases h
      · split at h
        · cases h
        · split at h
          · cases h
          · split at h
            · cases h
            · split at h
              · split at h
                · cases h
                · rename_i hput
                  cases h; exact (put_ok hput).1
              · cases h
    · unfold leafL at h
      split at h
      · split at h
        · cases h
        · rename_i hput
          cases h; exact (put_ok hput).1
      · split at h
        · split at h
          · cases h
          · rename_i hput
            cases h; exact (put_ok hput).1
        · cases h

/-- A text that is read is read again, and with a closing bracket behind it that is what is left over. -/
theorem read_more {s : List UInt8} {u : List Nd} {p : Int} (h : readL s = (u, 0, p)) (hl : s.length < 4000) (c : UInt8) (hc : inWord c = false) : readL (s ++ [c]) = ([], 5, (s.length : Int)) := by
  unfold readL at h
  rw [if_neg (by omega)] at h
  split at h
  · rename_i c' p' hr
    have := (rd_fail _ _ _ hr).1
    simp only [Prod.mk.injEq] at h
    obtain ⟨_, h1, _⟩ := h
    simp only at this
    omega
  · rename_i st i hr
    split at h
    · rename_i h0
      have e0 : st.r = [] := List.eq_nil_of_length_eq_zero h0
      obtain ⟨x, a1, a2, a3, a4⟩ := rd_local _ _ _ _ hr
      simp only [e0, List.append_nil] at a1
      subst a1
      have k := a4 (s.length + 2) [c] (by omega) (.inl (.inr ⟨c, [], rfl, hc⟩))
      unfold readL
      rw [if_neg (by simp; omega), List.length_append]
      simp only [List.length_cons, List.length_nil]
      rw [k]
      simp only [List.length_cons, List.length_nil]
      rw [if_neg (by omega), a2]
      simp
    · simp only [Prod.mk.injEq] at h
      omega
/-- What stands ahead of a rest is read. -/
theorem read_rest {s : List UInt8} {u : List Nd} {p : Int} (h : readL s = (u, 5, p)) : ∃ v, readL (s.take p.toNat) = (v, 0, 0) ∧ 0 < v.length ∧ 0 ≤ p ∧ p.toNat ≤ s.length := by
  unfold readL at h
  split at h
  · simp only [Prod.mk.injEq] at h; omega
  · rename_i hl
    split at h
    · rename_i c' p' hr
      have := (rd_fail _ _ _ hr).1
      simp only [Prod.mk.injEq] at h
      obtain ⟨_, h1, _⟩ := h
      simp only at this
      omega
    · rename_i st i hr
      split at h
      · simp only [Prod.mk.injEq] at h; omega
      · simp only [Prod.mk.injEq] at h
        obtain ⟨_, _, hp⟩ := h
        obtain ⟨x, a1, a2, a3, a4⟩ := rd_local _ _ _ _ hr
        simp only at a1 a2
        have hpx : p.toNat = x.length := by omega
        have ht : s.take p.toNat = x := by rw [hpx, a1]; simp
        have hxl : x.length ≤ s.length := by rw [a1]; simp
        have k := a4 (x.length + 1) [] (by omega) (.inl bd_nil)
        rw [List.append_nil] at k
        refine ⟨st.t.take (i + 1), ?_, ?_, by omega, by omega⟩
        · rw [ht]
          unfold readL
          rw [if_neg (by omega)]
          simp only at k
          rw [k]
          rfl
        · have := rd_place hr
          rw [List.length_take]; omega
/-- The byte that is told lies in the text. -/
theorem read_byte (s : List UInt8) : 0 ≤ (readL s).2.2 ∧ (readL s).2.2 ≤ (s.length : Int) ∧ 0 ≤ (readL s).2.1 ∧ (readL s).2.1 ≤ 5 := by
  unfold readL
  split
  · simp
  · split
    · rename_i c' p' hr
      have := rd_fail _ _ _ hr
      simp only at this ⊢
      omega
    · rename_i st i hr
      have := rd_sum hr
      simp only at this
      split
      · simp
      · simp only; omega

end Go.Proofs.YtdmogjhabladcaaGreat.Tx1

/- The text of a node is read as that node, when its parts are. -/
namespace Go.Proofs.YtdmogjhabladcaaGreat.Tx2
open Nd0 Pl1 Tm0 Tm1 Tm3 Tm8 Tx0 Tx1

/-- The text of node i. -/
def X (l : List Nd) (i : Nat) : List UInt8 := txt (showTo l l.length) (i : Int)
theorem txt_nat (ts : List (List UInt8)) (i : Nat) : txt ts (i : Int) = ts.getD i [] := by simp [txt]
theorem show_new (l : List Nd) (k : Nat) : txt (showTo l (k + 1)) (k : Int) = showN (nth l k) (showTo l k) := by
  rw [txt_nat]
  show (showTo l k ++ [_]).getD k [] = _
  rw [List.getD_eq_getElem?_getD, List.getElem?_append_right (by rw [showTo_length]; exact Nat.le_refl _), showTo_length]
  simp
theorem show_old (l : List Nd) {k i : Nat} (h : i < k) : txt (showTo l (k + 1)) (i : Int) = txt (showTo l k) (i : Int) := by
  rw [txt_nat, txt_nat]
  show (showTo l k ++ [_]).getD i [] = _
  rw [List.getD_eq_getElem?_getD, List.getElem?_append_left (by rw [showTo_length]; exact h), ← List.getD_eq_getElem?_getD]
theorem show_prefix (l : List Nd) {k n i : Nat} (hi : i < k) (hk : k ≤ n) : txt (showTo l n) (i : Int) = txt (showTo l k) (i : Int) := by
  induction n with
  | zero => omega
  | succ n ih =>
    by_cases e : k = n + 1
    · subst e; rfl
    · rw [← ih (by omega)]; exact show_old l (by omega)
theorem with_congr {ts us : List (List UInt8)} : ∀ (ps : List Int) (h : List UInt8), (∀ p ∈ ps, txt ts p = txt us p) → withParts ts h ps = withParts us h ps := by
  intro ps
  induction ps with
  | nil => intro h _; rfl
  | cons p ps ih =>
    intro h hp
    simp only [withParts]
    rw [hp p (by simp), ih _ (fun q hq => hp q (by simp [hq]))]
theorem showN_congr {ts us : List (List UInt8)} {n : Nd} (h : ∀ p ∈ parts n, txt ts p = txt us p) : showN n ts = showN n us := by
  unfold showN; rw [with_congr (parts n) (headL n) h]
theorem X_at {l : List Nd} (hD : Down l) {i : Nat} (hi : i < l.length) : X l i = showN (nth l i) (showTo l l.length) := by
  unfold X
  rw [show_prefix l (k := i + 1) (n := l.length) (by omega) (by omega), show_new]
  apply showN_congr
  intro p hp
  have hd := hD i hi p hp
  obtain ⟨y, rfl⟩ : ∃ y : Nat, p = (y : Int) := ⟨p.toNat, by omega⟩
  exact (show_prefix l (k := i) (n := l.length) (by omega) (by omega)).symm
theorem nth_app {t m : List Nd} {j : Nat} (h : j < t.length) : nth (t ++ m) j = nth t j := by
  unfold nth
  rw [List.getD_eq_getElem?_getD, List.getElem?_append_left h, ← List.getD_eq_getElem?_getD]
theorem nth_end (t : List Nd) (n : Nd) : nth (t ++ [n]) t.length = n := by
  unfold nth
  rw [List.getD_eq_getElem?_getD, List.getElem?_append_right (Nat.le_refl _)]
  simp
theorem showTo_app (t m : List Nd) : ∀ k, k ≤ t.length → showTo (t ++ m) k = showTo t k := by
  intro k
  induction k with
  | zero => intro _; rfl
  | succ k ih =>
    intro hk
    show showTo (t ++ m) k ++ [_] = showTo t k ++ [_]
    rw [ih (by omega), nth_app (by omega)]
theorem X_app (t m : List Nd) {j : Nat} (h : j < t.length) : X (t ++ m) j = X t j := by
  unfold X
  rw [show_prefix (t ++ m) (k := t.length) (n := (t ++ m).length) h (by simp), showTo_app t m _ (Nat.le_refl _)]
/-- The texts of parts, a blank ahead of each. -/
def tails (ts : List (List UInt8)) (ps : List Int) : List UInt8 := ps.flatMap fun p => 32 :: txt ts p
theorem with_some {ts : List (List UInt8)} : ∀ (ps : List Int) (h r : List UInt8), withParts ts h ps = some r → r = h ++ tails ts ps ∧ ∀ p ∈ ps, txt ts p ≠ [] := by
  intro ps
  induction ps with
  | nil => intro h r e; cases e; exact ⟨by simp [tails], fun p hp => by cases hp⟩
  | cons p ps ih =>
    intro h r e
    simp only [withParts] at e
    split at e
    · cases e
    · rename_i hne
      obtain ⟨h1, h2⟩ := ih _ _ e
      refine ⟨?_, ?_⟩
      · rw [h1]; simp [tails]
      · intro q hq
        rcases List.mem_cons.1 hq with e1 | e1
        · subst e1; exact hne
        · exact h2 q e1
theorem with_back {ts : List (List UInt8)} : ∀ (ps : List Int) (h : List UInt8), (∀ p ∈ ps, txt ts p ≠ []) → withParts ts h ps = some (h ++ tails ts ps) := by
  intro ps
  induction ps with
  | nil => intro h _; simp [withParts, tails]
  | cons p ps ih =>
    intro h hp
    simp only [withParts]
    rw [if_neg (hp p (by simp)), ih _ (fun q hq => hp q (by simp [hq]))]
    simp [tails]
/-- The text of a node in brackets. -/
theorem showN_inner {n : Nd} {ts : List (List UInt8)} (h0 : n.op ≠ 0) (h1 : n.op ≠ 1) (h : showN n ts ≠ []) : showN n ts = 40 :: (headL n ++ (tails ts (parts n) ++ [41])) ∧ (∀ p ∈ parts n, txt ts p ≠ []) ∧ (headL n ++ tails ts (parts n)).length + 2 ≤ 4000 := by
  unfold showN at h ⊢
  rw [if_neg h0, if_neg h1] at h ⊢
  cases hw : withParts ts (headL n) (parts n) with
  | none => rw [hw] at h; exact absurd rfl h
  | some r =>
    rw [hw] at h
    obtain ⟨a1, a2⟩ := with_some _ _ _ hw
    subst a1
    simp only at h ⊢
    split at h
    · exact absurd rfl h
    · rename_i hl
      rw [if_neg hl]
      exact ⟨by simp, a2, by omega⟩

/-- A node's own numbers as a reader has them ahead of its parts. -/
def hdr (n : Nd) : Nd :=
  if n.op = 17 then ⟨n.op, n.w, n.k, 0, 0, 0⟩ else if n.op = 19 ∨ n.op = 20 then ⟨n.op, 1, n.k, 0, n.b, 0⟩ else ⟨n.op, 0, 0, 0, 0, 0⟩
theorem dig_word {c : UInt8} (h : isDig c = true) : inWord c = true ∧ (c != 58) = true := by
  unfold isDig at h
  simp at h
  have h1 : c ≠ 32 := by intro e; subst e; simp at h
  have h2 : c ≠ 41 := by intro e; subst e; simp at h
  have h3 : c ≠ 58 := by intro e; subst e; simp at h
  unfold inWord
  simp [h1, h2, h3]
theorem dec_word (n : Nat) : ∀ c ∈ dec n, inWord c = true := fun c hc => (dig_word (dec_all n c hc)).1
theorem two_dec (h : UInt8) {a b : Nat} (ha : a < 10 ^ 9) (hb : b < 10 ^ 9) : twoL h (h :: (dec a ++ (58 :: dec b))) = some (a, b) := by
  have key : ∀ s : List UInt8, (∀ c ∈ s, (c != 58) = true) → (s ++ (58 :: dec b)).takeWhile (fun x => x != 58) = s ∧ (s ++ (58 :: dec b)).dropWhile (fun x => x != 58) = 58 :: dec b := by
    intro s
    induction s with
    | nil => intro _; exact ⟨rfl, rfl⟩
    | cons c s ih =>
      intro hs
      have h1 := hs c (by simp)
      have h2 := ih (fun d hd => hs d (by simp [hd]))
      rw [List.cons_append, List.takeWhile_cons, List.dropWhile_cons, h1, if_pos rfl, if_pos rfl, h2.1, h2.2]
      exact ⟨rfl, rfl⟩
  obtain ⟨k1, k2⟩ := key (dec a) (fun c hc => (dig_word (dec_all a c hc)).2)
  simp only [twoL, ↓reduceIte]
  rw [k1, k2, num_dec ha]
  simp only
  rw [num_dec hb]
theorem two_word (h : UInt8) (hh : inWord h = true) (a b : Nat) : ∀ c ∈ h :: (dec a ++ (58 :: dec b)), inWord c = true := by
  intro c hc
  rcases List.mem_cons.1 hc with e | e
  · subst e; exact hh
  · rcases List.mem_append.1 e with e | e
    · exact dec_word a c e
    · rcases List.mem_cons.1 e with e | e
      · subst e; rfl
      · exact dec_word b c e
/-- The head of a right node in brackets is read as its operator and its numbers. -/
theorem head_read {n : Nd} {ws : List Int} (hs : shapeOk n ws = true) (hw : 1 ≤ n.w ∧ n.w ≤ 8) (hws : ∀ x ∈ ws, x ≤ 8) (h0 : n.op ≠ 0) (h1 : n.op ≠ 1) :
    ∃ w hd, headL n = w ++ hd ∧ (∀ c ∈ w, inWord c = true) ∧ opOf w = some (n.op, (parts n).length) ∧ (∀ y, Bd y → Bd (hd ++ y)) ∧ ∀ p q t, Bd q → numsL n.op ⟨p, hd ++ q, t⟩ = some (⟨p + hd.length, q, t⟩, hdr n) := by
  obtain ⟨op, w, k, a, b, c⟩ := n
  simp only at h0 h1 hw
  have hnil : ∀ y : List UInt8, Bd y → Bd ([] ++ y) := fun y hy => hy
  have plain : ∀ op : Int, op ≠ 17 → op ≠ 19 → op ≠ 20 → ∀ (p : Nat) (q : List UInt8) (t : List Nd), Bd q → numsL op ⟨p, [] ++ q, t⟩ = some (⟨p + ([] : List UInt8).length, q, t⟩, hdr ⟨op, w, k, a, b, c⟩) := by
    intro op h17 h19 h20 p q t _
    unfold numsL hdr
    simp only
    rw [if_neg h17, if_neg (by omega), if_neg h17, if_neg (by omega)]
    rfl
  have hop : op = 2 ∨ op = 3 ∨ op = 4 ∨ op = 5 ∨ op = 6 ∨ op = 7 ∨ op = 8 ∨ op = 9 ∨ op = 10 ∨ op = 11 ∨ op = 12 ∨ op = 13 ∨ op = 14 ∨ op = 15 ∨ op = 16 ∨ op = 17 ∨ op = 18 ∨ op = 19 ∨ op = 20 := by
    unfold shapeOk at hs
    simp only at hs
    rw [if_neg h0, if_neg h1] at hs
    by_cases e : op = 2
    · omega
    · rw [if_neg e] at hs
      by_cases e : 3 ≤ op ∧ op ≤ 12
      · omega
      · rw [if_neg e] at hs
        by_cases e : 13 ≤ op ∧ op ≤ 15
        · omega
        · rw [if_neg e] at hs
          by_cases e : op = 16
          · omega
          · rw [if_neg e] at hs
            by_cases e : op = 17
            · omega
            · rw [if_neg e] at hs
              by_cases e : op = 18
              · omega
              · rw [if_neg e] at hs
                by_cases e : op = 19 ∨ op = 20
                · omega
                · rw [if_neg e] at hs; cases hs
  rcases hop with e | e | e | e | e | e | e | e | e | e | e | e | e | e | e | e | e | e | e <;> subst e
  · exact ⟨wNot, [], by simp [headL], by decide, rfl, hnil, plain 2 (by omega) (by omega) (by omega)⟩
  · exact ⟨[97, 110, 100], [], by simp [headL, wordsL], by decide, rfl, hnil, plain 3 (by omega) (by omega) (by omega)⟩
  · exact ⟨[111, 114], [], by simp [headL, wordsL], by decide, rfl, hnil, plain 4 (by omega) (by omega) (by omega)⟩
  · exact ⟨[120, 111, 114], [], by simp [headL, wordsL], by decide, rfl, hnil, plain 5 (by omega) (by omega) (by omega)⟩
  · exact ⟨[97, 100, 100], [], by simp [headL, wordsL], by decide, rfl, hnil, plain 6 (by omega) (by omega) (by omega)⟩
  · exact ⟨[115, 117, 98], [], by simp [headL, wordsL], by decide, rfl, hnil, plain 7 (by omega) (by omega) (by omega)⟩
  · exact ⟨[109, 117, 108], [], by simp [headL, wordsL], by decide, rfl, hnil, plain 8 (by omega) (by omega) (by omega)⟩
  · exact ⟨[100, 105, 118], [], by simp [headL, wordsL], by decide, rfl, hnil, plain 9 (by omega) (by omega) (by omega)⟩
  · exact ⟨[114, 101, 109], [], by simp [headL, wordsL], by decide, rfl, hnil, plain 10 (by omega) (by omega) (by omega)⟩
  · exact ⟨[115, 104, 108], [], by simp [headL, wordsL], by decide, rfl, hnil, plain 11 (by omega) (by omega) (by omega)⟩
  · exact ⟨[115, 104, 114], [], by simp [headL, wordsL], by decide, rfl, hnil, plain 12 (by omega) (by omega) (by omega)⟩
  · exact ⟨[61], [], by simp [headL, wordsL], by decide, rfl, hnil, plain 13 (by omega) (by omega) (by omega)⟩
  · exact ⟨[60], [], by simp [headL, wordsL], by decide, rfl, hnil, plain 14 (by omega) (by omega) (by omega)⟩
  · exact ⟨[115, 60], [], by simp [headL, wordsL], by decide, rfl, hnil, plain 15 (by omega) (by omega) (by omega)⟩
  · exact ⟨[106, 111, 105, 110], [], by simp [headL, wordsL], by decide, rfl, hnil, plain 16 (by omega) (by omega) (by omega)⟩
  · have hk : 0 ≤ k ∧ k ≤ 8 := by
      have hs' : decide (0 ≤ k ∧ k ≤ ws.getD 0 0 - w ∧ b = 0 ∧ c = 0) = true := hs
      replace hs := of_decide_eq_true hs'
      have hx : ws.getD 0 0 ≤ 8 := by
        cases ws with
        | nil => simp
        | cons x ws => simpa using hws x (by simp)
      omega
    refine ⟨wSlice, 32 :: (dec k.toNat ++ (32 :: dec w.toNat)), by simp [headL], by decide, rfl, fun y _ => bd_blank _, ?_⟩
    intro p q t hq
    have e1 : (32 :: (dec k.toNat ++ (32 :: dec w.toNat))) ++ q = 32 :: (dec k.toNat ++ (32 :: (dec w.toNat ++ q))) := by simp
    have m1 := word_mk (p + 1) t (dec_word k.toNat) (bd_blank (dec w.toNat ++ q))
    have m2 := word_mk (p + 1 + (dec k.toNat).length + 1) t (dec_word w.toNat) hq
    unfold numsL hdr
    rw [if_pos rfl, e1, blank_mk]
    simp only
    rw [m1.1, m1.2, num_dec (by omega), blank_mk]
    simp only
    rw [m2.1, m2.2, num_dec (by omega)]
    simp only [if_true]
    have ek : ((k.toNat : Nat) : Int) = k := by omega
    have ew : ((w.toNat : Nat) : Int) = w := by omega
    rw [ek, ew]
    congr 3
    simp; omega
  · exact ⟨wIf, [], by simp [headL], by decide, rfl, hnil, plain 18 (by omega) (by omega) (by omega)⟩
  · have hk : 0 ≤ k ∧ k ≤ 7 ∧ 1 ≤ b ∧ b ≤ 8 := by
      have hs' : decide (0 ≤ k ∧ k ≤ 7 ∧ 1 ≤ b ∧ b ≤ 8 ∧ ws.getD 0 0 = 1 ∧ w = 1 ∧ c = 0) = true := hs
      replace hs := of_decide_eq_true hs'
      omega
    refine ⟨wAll, 32 :: (118 :: (dec k.toNat ++ (58 :: dec b.toNat))), by simp [headL], by decide, rfl, fun y _ => bd_blank _, ?_⟩
    intro p q t hq
    have e1 : (32 :: (118 :: (dec k.toNat ++ (58 :: dec b.toNat)))) ++ q = 32 :: ((118 :: (dec k.toNat ++ (58 :: dec b.toNat))) ++ q) := rfl
    have m1 := word_mk (p + 1) t (two_word 118 rfl k.toNat b.toNat) hq
    show numsL 19 _ = some (_, (⟨19, 1, k, 0, b, 0⟩ : Nd))
    unfold numsL
    rw [if_neg (by decide), if_pos (by decide), e1, blank_mk]
    simp only
    rw [m1.1, m1.2, two_dec 118 (by omega) (by omega)]
    simp only
    have ek : ((k.toNat : Nat) : Int) = k := by omega
    have eb : ((b.toNat : Nat) : Int) = b := by omega
    rw [ek, eb]
    congr 3
    simp; omega
  · have hk : 0 ≤ k ∧ k ≤ 7 ∧ 1 ≤ b ∧ b ≤ 8 := by
      have hs' : decide (0 ≤ k ∧ k ≤ 7 ∧ 1 ≤ b ∧ b ≤ 8 ∧ ws.getD 0 0 = 1 ∧ w = 1 ∧ c = 0) = true := hs
      replace hs := of_decide_eq_true hs'
      omega
    refine ⟨wSome, 32 :: (118 :: (dec k.toNat ++ (58 :: dec b.toNat))), by simp [headL], by decide, rfl, fun y _ => bd_blank _, ?_⟩
    intro p q t hq
    have e1 : (32 :: (118 :: (dec k.toNat ++ (58 :: dec b.toNat)))) ++ q = 32 :: ((118 :: (dec k.toNat ++ (58 :: dec b.toNat))) ++ q) := rfl
    have m1 := word_mk (p + 1) t (two_word 118 rfl k.toNat b.toNat) hq
    show numsL 20 _ = some (_, (⟨20, 1, k, 0, b, 0⟩ : Nd))
    unfold numsL
    rw [if_neg (by decide), if_pos (by decide), e1, blank_mk]
    simp only
    rw [m1.1, m1.2, two_dec 118 (by omega) (by omega)]
    simp only
    have ek : ((k.toNat : Nat) : Int) = k := by omega
    have eb : ((b.toNat : Nat) : Int) = b := by omega
    rw [ek, eb]
    congr 3
    simp; omega

/-- A node with its parts told by other places. -/
def reparts (n : Nd) (is : List Nat) : Nd :=
  ⟨n.op, n.w, n.k, if 0 < is.length then (is.getD 0 0 : Nat) else n.a, if 1 < is.length then (is.getD 1 0 : Nat) else n.b, if 2 < is.length then (is.getD 2 0 : Nat) else n.c⟩
/-- What the reader makes of a right node's numbers and its parts. -/
theorem made_eq {n : Nd} {ws : List Int} {t : List Nd} {is : List Nat} (hs : shapeOk n ws = true) (hl : is.length = (parts n).length) (hwl : is.map (fun (i : Nat) => width t (i : Int)) = ws) (h0 : n.op ≠ 0) (h1 : n.op ≠ 1) : madeL (hdr n) t is = reparts n is := by
  obtain ⟨op, w, k, a, b, c⟩ := n
  simp only at h0 h1
  unfold shapeOk at hs
  simp only at hs
  rw [if_neg h0, if_neg h1] at hs
  have one : op = 2 ∨ op = 17 ∨ op = 19 ∨ op = 20 → ∃ i, is = [i] := by
    intro h
    rw [parts_one h] at hl
    match is, hl with
    | [i], _ => exact ⟨i, rfl⟩
  have two : 3 ≤ op ∧ op ≤ 16 → ∃ i j, is = [i, j] := by
    intro h
    rw [parts_two h] at hl
    match is, hl with
    | [i, j], _ => exact ⟨i, j, rfl⟩
  by_cases e : op = 2
  · subst e
    obtain ⟨i, rfl⟩ := one (by omega)
    rw [if_pos rfl] at hs
    subst hwl
    simp at hs
    unfold madeL hdr reparts
    simp
    omega
  rw [if_neg e] at hs
  by_cases e : 3 ≤ op ∧ op ≤ 12
  · obtain ⟨i, j, rfl⟩ := two (by omega)
    rw [if_pos e] at hs
    subst hwl
    simp at hs
    have e17 : ¬ op = 17 := by omega
    have eq : ¬ (op = 19 ∨ op = 20) := by omega
    have e3 : ¬ (op = 17 ∨ op = 19 ∨ op = 20) := by omega
    have e4 : ¬ (13 ≤ op ∧ op ≤ 15) := by omega
    have e5 : ¬ op = 16 := by omega
    have e6 : ¬ op = 18 := by omega
    unfold madeL hdr reparts
    simp only [if_neg e17, if_neg eq, if_neg e3, if_neg e4, if_neg e5, if_neg e6]
    simp
    omega
  rw [if_neg e] at hs
  by_cases e : 13 ≤ op ∧ op ≤ 15
  · obtain ⟨i, j, rfl⟩ := two (by omega)
    rw [if_pos e] at hs
    subst hwl
    simp at hs
    have e17 : ¬ op = 17 := by omega
    have eq : ¬ (op = 19 ∨ op = 20) := by omega
    have e3 : ¬ (op = 17 ∨ op = 19 ∨ op = 20) := by omega
    unfold madeL hdr reparts
    simp only [if_neg e17, if_neg eq, if_neg e3, if_pos e]
    simp
    omega
  rw [if_neg e] at hs
  by_cases e : op = 16
  · subst e
    obtain ⟨i, j, rfl⟩ := two (by omega)
    rw [if_pos rfl] at hs
    subst hwl
    simp at hs
    unfold madeL hdr reparts
    simp
    omega
  rw [if_neg e] at hs
  by_cases e : op = 17
  · subst e
    obtain ⟨i, rfl⟩ := one (by omega)
    rw [if_pos rfl] at hs
    subst hwl
    simp at hs
    unfold madeL hdr reparts
    simp
    omega
  rw [if_neg e] at hs
  by_cases e : op = 18
  · subst e
    rw [parts_three rfl] at hl
    obtain ⟨i, j, m, rfl⟩ : ∃ i j m, is = [i, j, m] := by
      match is, hl with
      | [i, j, m], _ => exact ⟨i, j, m, rfl⟩
    rw [if_pos rfl] at hs
    subst hwl
    simp at hs
    unfold madeL hdr reparts
    simp
    omega
  rw [if_neg e] at hs
  by_cases e : op = 19 ∨ op = 20
  · obtain ⟨i, rfl⟩ := one (by omega)
    rw [if_pos e] at hs
    subst hwl
    simp at hs
    have e17 : ¬ op = 17 := by omega
    have e3 : op = 17 ∨ op = 19 ∨ op = 20 := by omega
    unfold madeL hdr reparts
    simp only [if_neg e17, if_pos e, if_pos e3]
    simp
    omega
  rw [if_neg e] at hs
  cases hs

end Go.Proofs.YtdmogjhabladcaaGreat.Tx2

/- What is written of a term is read: as its canonical form, of which the same is written. -/
namespace Go.Proofs.YtdmogjhabladcaaGreat.Tx3
open Nd0 Pl1 Tm0 Tm1 Tm3 Tm8 Tx0 Tx1 Tx2

/-- A list of right nodes, no two alike. -/
structure Neat (t : List Nd) : Prop where
  ok : ∀ k, k < t.length → nodeOk t k = true
  one : ∀ j k, j < t.length → k < t.length → nth t j = nth t k → j = k
theorem Neat.down {t : List Nd} (h : Neat t) : Down t := by
  intro i hi p hp
  obtain ⟨j, hj, rfl⟩ := List.getElem_of_mem hp
  exact parts_ok (h.ok i hi) j hj
theorem place_some {t : List Nd} {n : Nd} {j : Nat} (h : placeOf t n = some j) : j < t.length ∧ nth t j = n := by
  have h1 := List.mem_of_find?_eq_some h
  have h2 := List.find?_some h
  simp only [decide_eq_true_eq] at h2
  exact ⟨List.mem_range.1 h1, Nd.ext' h2⟩
theorem place_none {t : List Nd} {n : Nd} (h : placeOf t n = none) {j : Nat} (hj : j < t.length) : nth t j ≠ n := by
  intro e
  have := List.find?_eq_none.1 h j (List.mem_range.2 hj)
  simp [e] at this
theorem place_at {t : List Nd} (hG : Neat t) {j : Nat} (hj : j < t.length) : placeOf t (nth t j) = some j := by
  cases h : placeOf t (nth t j) with
  | none => exact absurd rfl (place_none h hj)
  | some i =>
    obtain ⟨h1, h2⟩ := place_some h
    rw [hG.one i j h1 hj h2]
theorem bd_tails (ts : List (List UInt8)) (ps : List Int) {y : List UInt8} (h : Bd y) : Bd (tails ts ps ++ y) := by
  cases ps with
  | nil => exact h
  | cons p ps => exact bd_blank _
theorem widths_le {l : List Nd} {i : Nat} (hok : ∀ k, k < i → nodeOk l k = true) (h : nodeOk l i = true) : ∀ x ∈ (parts (nth l i)).map (width l), x ≤ 8 := by
  intro x hx
  obtain ⟨p, hp, rfl⟩ := List.mem_map.1 hx
  obtain ⟨j, hj, rfl⟩ := List.getElem_of_mem hp
  have := parts_ok h j hj
  exact (node_width (hok (parts (nth l i))[j].toNat (by omega))).2
/-- The text of a right node is read, where those of its parts are. -/
theorem node_read {l : List Nd} (hN : ∀ k, k < l.length → nodeOk l k = true) (hD : Down l) {i : Nat} (hi : i < l.length) (hX : X l i ≠ []) {t t2 : List Nd} {is : List Nat} {g : Nat}
    (hl : is.length = (parts (nth l i)).length) (hw : is.map (fun (i : Nat) => width t2 (i : Int)) = (parts (nth l i)).map (width l))
    (hp : ∀ p0 p q, Bd q → partsL (rdL g) p0 (parts (nth l i)).length ⟨p, tails (showTo l l.length) (parts (nth l i)) ++ q, t⟩ = .ok (⟨p + (tails (showTo l l.length) (parts (nth l i))).length, q, t2⟩, is))
    (p : Nat) (q : List UInt8) (hq : Bd q ∨ opens (X l i) = true) :
    rdL (g + 1) ⟨p, X l i ++ q, t⟩ = match putL t2 (reparts (nth l i) is) p with
      | .error e => .error e
      | .ok (t3, j) => .ok (⟨p + (X l i).length, q, t3⟩, j) := by
  have hok := hN i hi
  have hXa := X_at hD hi
  have hsh : shapeOk (nth l i) ((parts (nth l i)).map (width l)) = true := by
    simp only [nodeOk, Bool.and_eq_true] at hok; exact hok.2
  have hwd := node_width hok
  have hle := widths_le (fun k hk => hN k (by omega)) hok
  generalize nth l i = n at hl hw hp hXa hsh hwd hle ⊢
  by_cases h0 : n.op = 0
  · have hpn : parts n = [] := parts_none (by omega) (by omega) (by omega)
    rw [hpn] at hl hp
    have his : is = [] := List.eq_nil_of_length_eq_zero hl
    subst his
    have e2 : t = t2 := by
      have := hp 0 0 [] bd_nil
      simp only [List.length_nil, partsL] at this
      injection this with this
      injection this with this _
      injection this
    subst e2
    have hs2 : (wok n.w n.k && decide (n.a = 0 ∧ n.b = 0 ∧ n.c = 0)) = true := by unfold shapeOk at hsh; rw [if_pos h0] at hsh; exact hsh
    simp only [Bool.and_eq_true, decide_eq_true_eq] at hs2
    obtain ⟨hwk, ha, hb, hc⟩ := hs2
    have hk := wok_lt hwk
    have hx : X l i = 35 :: (dec n.w.toNat ++ (58 :: dec n.k.toNat)) := by rw [hXa]; unfold showN; rw [if_pos h0]; simp
    have hne : reparts n [] = ⟨0, ((n.w.toNat : Nat) : Int), ((n.k.toNat : Nat) : Int), 0, 0, 0⟩ := by
      unfold reparts; simp only [List.length_nil]
      apply Nd.ext'; simp only
      refine ⟨h0, by omega, by omega, ?_, ?_, ?_⟩
      · rw [if_neg (by omega)]; exact ha
      · rw [if_neg (by omega)]; exact hb
      · rw [if_neg (by omega)]; exact hc
    rw [hx] at hq ⊢
    have hbd : Bd q := by rcases hq with h | h
                          · exact h
                          · cases h
    have m1 := word_mk p t (two_word 35 rfl n.w.toNat n.k.toNat) hbd
    have ho : opens ((35 :: (dec n.w.toNat ++ (58 :: dec n.k.toNat))) ++ q) = false := rfl
    simp only [rdL]
    rw [ho]
    simp only [Bool.false_eq_true, if_false]
    unfold leafL
    rw [m1.1, m1.2, two_dec 35 (by omega) (by omega), hne]
    all_goals (simp only; rcases putL t ⟨0, ((n.w.toNat : Nat) : Int), ((n.k.toNat : Nat) : Int), 0, 0, 0⟩ p with e | ⟨t3, j⟩ <;> rfl)
  by_cases h1 : n.op = 1
  · have hpn : parts n = [] := parts_none (by omega) (by omega) (by omega)
    rw [hpn] at hl hp
    have his : is = [] := List.eq_nil_of_length_eq_zero hl
    subst his
    have e2 : t = t2 := by
      have := hp 0 0 [] bd_nil
      simp only [List.length_nil, partsL] at this
      injection this with this
      injection this with this _
      injection this
    subst e2
    have hs2 : decide (0 ≤ n.k ∧ n.k ≤ 7 ∧ n.a = 0 ∧ n.b = 0 ∧ n.c = 0) = true := by unfold shapeOk at hsh; rw [if_neg h0, if_pos h1] at hsh; exact hsh
    simp only [decide_eq_true_eq] at hs2
    obtain ⟨hk1, hk2, ha, hb, hc⟩ := hs2
    have hx : X l i = 118 :: (dec n.k.toNat ++ (58 :: dec n.w.toNat)) := by rw [hXa]; unfold showN; rw [if_neg h0, if_pos h1]; simp
    have hne : reparts n [] = ⟨1, ((n.w.toNat : Nat) : Int), ((n.k.toNat : Nat) : Int), 0, 0, 0⟩ := by
      unfold reparts; simp only [List.length_nil]
      apply Nd.ext'; simp only
      refine ⟨h1, by omega, by omega, ?_, ?_, ?_⟩
      · rw [if_neg (by omega)]; exact ha
      · rw [if_neg (by omega)]; exact hb
      · rw [if_neg (by omega)]; exact hc
    rw [hx] at hq ⊢
    have hbd : Bd q := by rcases hq with h | h
                          · exact h
                          · cases h
    have m1 := word_mk p t (two_word 118 rfl n.k.toNat n.w.toNat) hbd
    have ho : opens ((118 :: (dec n.k.toNat ++ (58 :: dec n.w.toNat))) ++ q) = false := rfl
    have hno : twoL 35 (118 :: (dec n.k.toNat ++ (58 :: dec n.w.toNat))) = none := rfl
    simp only [rdL]
    rw [ho]
    simp only [Bool.false_eq_true, if_false]
    unfold leafL
    rw [m1.1, m1.2, hno]
    simp only
    rw [two_dec 118 (by omega) (by omega), hne]
    all_goals (simp only; rcases putL t ⟨1, ((n.w.toNat : Nat) : Int), ((n.k.toNat : Nat) : Int), 0, 0, 0⟩ p with e | ⟨t3, j⟩ <;> rfl)
  · rw [hXa] at hX
    obtain ⟨b1, b2, b3⟩ := showN_inner h0 h1 hX
    rw [hXa, b1]
    obtain ⟨w, hd, c1, c2, c3, c4, c5⟩ := head_read hsh hwd hle h0 h1
    have hm : madeL (hdr n) t2 is = reparts n is := made_eq hsh hl hw h0 h1
    have e1 : (40 :: (headL n ++ (tails (showTo l l.length) (parts n) ++ [41]))) ++ q = 40 :: (w ++ (hd ++ (tails (showTo l l.length) (parts n) ++ (41 :: q)))) := by rw [c1]; simp
    rw [e1]
    have ho : opens (40 :: (w ++ (hd ++ (tails (showTo l l.length) (parts n) ++ (41 :: q))))) = true := rfl
    simp only [rdL]
    rw [ho, if_pos rfl]
    have hb2 : Bd (tails (showTo l l.length) (parts n) ++ (41 :: q)) := bd_tails _ _ (bd_shut q)
    have m1 := word_mk (p + 1) t c2 (c4 _ hb2)
    have k1 := c5 (p + 1 + w.length) (tails (showTo l l.length) (parts n) ++ (41 :: q)) t hb2
    have k2 := hp p (p + 1 + w.length + hd.length) (41 :: q) (bd_shut q)
    unfold innerL
    simp only [List.tail_cons]
    rw [m1.1, m1.2, c3]
    simp only
    rw [k1]
    simp only
    rw [k2]
    simp only [if_true]
    rw [hm]
    have e3 : p + 1 + w.length + hd.length + (tails (showTo l l.length) (parts n)).length + 1 = p + (40 :: (headL n ++ (tails (showTo l l.length) (parts n) ++ [41]))).length := by
      rw [c1]; simp; omega
    rw [e3]
    all_goals (rcases putL t2 (reparts n is) p with e | ⟨t3, j⟩ <;> rfl)
/-- Parts one behind the other, each read without a new node. -/
theorem parts_seq {g : Nat} {t : List Nd} (ts : List (List UInt8)) (p0 : Nat) : ∀ (ps : List Int) (is : List Nat), is.length = ps.length →
    (∀ x ∈ ps.zip is, ∀ p q, Bd q → rdL g ⟨p, txt ts x.1 ++ q, t⟩ = .ok (⟨p + (txt ts x.1).length, q, t⟩, x.2)) →
    ∀ p q, Bd q → partsL (rdL g) p0 ps.length ⟨p, tails ts ps ++ q, t⟩ = .ok (⟨p + (tails ts ps).length, q, t⟩, is) := by
  intro ps
  induction ps with
  | nil =>
    intro is hl _ p q _
    have his : is = [] := List.eq_nil_of_length_eq_zero hl
    subst his
    rfl
  | cons a ps ih =>
    intro is hl h p q hq
    match is, hl with
    | i :: is, hl =>
      have h1 := h (a, i) (by simp) (p + 1) (tails ts ps ++ q) (bd_tails ts ps hq)
      have h2 := ih is (by simpa using hl) (fun x hx => h x (by simp [hx])) (p + 1 + (txt ts a).length) q hq
      have e1 : tails ts (a :: ps) ++ q = 32 :: (txt ts a ++ (tails ts ps ++ q)) := by simp [tails]
      rw [e1, List.length_cons]
      simp only [partsL]
      rw [blank_mk]
      simp only
      rw [h1]
      simp only
      rw [h2]
      simp only
      congr 3
      simp [tails]; omega
theorem X_len {l : List Nd} (hN : ∀ k, k < l.length → nodeOk l k = true) (hD : Down l) {i : Nat} (hi : i < l.length) : (X l i).length ≤ 4000 := by
  have hok := hN i hi
  have hXa := X_at hD hi
  have hsh : shapeOk (nth l i) ((parts (nth l i)).map (width l)) = true := by
    simp only [nodeOk, Bool.and_eq_true] at hok; exact hok.2
  have hwd := node_width hok
  generalize nth l i = n at hXa hsh hwd
  by_cases h0 : n.op = 0
  · have hs2 : (wok n.w n.k && decide (n.a = 0 ∧ n.b = 0 ∧ n.c = 0)) = true := by unfold shapeOk at hsh; rw [if_pos h0] at hsh; exact hsh
    simp only [Bool.and_eq_true] at hs2
    have hk := wok_lt hs2.1
    have d1 := dec_len (n := n.w.toNat) (by omega)
    have d2 := dec_len (n := n.k.toNat) (by omega)
    rw [hXa]; unfold showN; rw [if_pos h0]; simp; omega
  by_cases h1 : n.op = 1
  · have hs2 : decide (0 ≤ n.k ∧ n.k ≤ 7 ∧ n.a = 0 ∧ n.b = 0 ∧ n.c = 0) = true := by unfold shapeOk at hsh; rw [if_neg h0, if_pos h1] at hsh; exact hsh
    simp only [decide_eq_true_eq] at hs2
    have d1 := dec_len (n := n.w.toNat) (by omega)
    have d2 := dec_len (n := n.k.toNat) (by omega)
    rw [hXa]; unfold showN; rw [if_neg h0, if_pos h1]; simp; omega
  · by_cases hX : showN n (showTo l l.length) = []
    · rw [hXa, hX]; simp
    · obtain ⟨b1, b2, b3⟩ := showN_inner h0 h1 hX
      rw [hXa, b1]
      simp at b3 ⊢; omega
/-- The text of a part is shorter, and there. -/
theorem part_text {l : List Nd} (hD : Down l) {i : Nat} (hi : i < l.length) (hX : X l i ≠ []) {p : Int} (hp : p ∈ parts (nth l i)) : txt (showTo l l.length) p = X l p.toNat ∧ X l p.toNat ≠ [] ∧ (X l p.toNat).length + 1 < (X l i).length ∧ opens (X l i) = true := by
  have hd := hD i hi p hp
  have hXa := X_at hD hi
  have hpe : txt (showTo l l.length) p = X l p.toNat := by
    unfold X; congr 1; omega
  have h0 : (nth l i).op ≠ 0 := by
    intro h; rw [parts_none (by omega) (by omega) (by omega)] at hp; cases hp
  have h1 : (nth l i).op ≠ 1 := by
    intro h; rw [parts_none (by omega) (by omega) (by omega)] at hp; cases hp
  rw [hXa] at hX
  obtain ⟨b1, b2, b3⟩ := showN_inner h0 h1 hX
  have b4 := b2 p hp
  rw [hpe] at b4
  have hmem : ∀ (ps : List Int), p ∈ ps → (X l p.toNat).length + 1 ≤ (tails (showTo l l.length) ps).length := by
    intro ps
    induction ps with
    | nil => intro h; cases h
    | cons a ps ih =>
      intro h
      rcases List.mem_cons.1 h with e | e
      · subst e; simp only [tails, List.flatMap_cons, List.length_append, List.length_cons]; rw [hpe]; omega
      · have := ih e
        simp only [tails, List.flatMap_cons, List.length_append, List.length_cons] at this ⊢; omega
  have := hmem _ hp
  refine ⟨hpe, b4, ?_, ?_⟩
  · rw [hXa, b1]; simp; omega
  · rw [hXa, b1]; rfl
theorem reparts_self {l : List Nd} (hD : Down l) {i : Nat} (hi : i < l.length) : reparts (nth l i) ((parts (nth l i)).map Int.toNat) = nth l i := by
  have hd := hD i hi
  unfold reparts
  rcases parts_cases (nth l i) with e | e | e | e
  · rw [e]; rfl
  · rw [e] at hd ⊢
    have h1 := hd (nth l i).a (by simp)
    apply Nd.ext'
    simp; omega
  · rw [e] at hd ⊢
    have h1 := hd (nth l i).a (by simp)
    have h2 := hd (nth l i).b (by simp)
    apply Nd.ext'
    simp; omega
  · rw [e] at hd ⊢
    have h1 := hd (nth l i).a (by simp)
    have h2 := hd (nth l i).b (by simp)
    have h3 := hd (nth l i).c (by simp)
    apply Nd.ext'
    simp; omega
theorem mem_zip_map {α β : Type} (f : α → β) : ∀ (ps : List α) (x : α × β), x ∈ ps.zip (ps.map f) → x.1 ∈ ps ∧ x.2 = f x.1 := by
  intro ps
  induction ps with
  | nil => intro x hx; cases hx
  | cons a ps ih =>
    intro x hx
    simp only [List.map_cons, List.zip_cons_cons, List.mem_cons] at hx
    rcases hx with e | e
    · subst e; exact ⟨by simp, rfl⟩
    · have := ih x e; exact ⟨by simp [this.1], this.2⟩
/-- The text of a node of a good list is read as that node, and nothing is put in. -/
theorem reread {t : List Nd} (hG : Neat t) : ∀ j, j < t.length → X t j ≠ [] → ∀ g p q, (X t j).length < g → (Bd q ∨ opens (X t j) = true) → rdL g ⟨p, X t j ++ q, t⟩ = .ok (⟨p + (X t j).length, q, t⟩, j) := by
  intro j
  induction j using Nat.strongRecOn with
  | ind j ih =>
    intro hj hX g p q hg hq
    have hD := hG.down
    cases g with
    | zero => omega
    | succ g =>
      have hp : ∀ p0 p q, Bd q → partsL (rdL g) p0 (parts (nth t j)).length ⟨p, tails (showTo t t.length) (parts (nth t j)) ++ q, t⟩ = .ok (⟨p + (tails (showTo t t.length) (parts (nth t j))).length, q, t⟩, (parts (nth t j)).map Int.toNat) := by
        intro p0
        refine parts_seq (showTo t t.length) p0 (parts (nth t j)) _ (by simp) ?_
        intro x hx p q hq
        obtain ⟨h1, h2⟩ := mem_zip_map Int.toNat _ x hx
        obtain ⟨c1, c2, c3, c4⟩ := part_text hD hj hX h1
        have hd := hD j hj x.1 h1
        rw [c1, h2]
        exact ih x.1.toNat (by omega) (by omega) c2 g p q (by omega) (.inl hq)
      have hw : ((parts (nth t j)).map Int.toNat).map (fun (i : Nat) => width t (i : Int)) = (parts (nth t j)).map (width t) := by
        rw [List.map_map]
        apply List.map_congr_left
        intro p hp
        have hd := hD j hj p hp
        simp only [Function.comp]
        congr 1; omega
      have key := node_read hG.ok hD hj hX (by simp) hw hp p q hq
      rw [key, reparts_self hD hj]
      unfold putL
      rw [place_at hG hj]
/-- Two nodes of a good list with one text are one. -/
theorem text_inj {t : List Nd} (hG : Neat t) {j k : Nat} (hj : j < t.length) (hk : k < t.length) (hX : X t j ≠ []) (h : X t j = X t k) : j = k := by
  have h1 := reread hG j hj hX ((X t j).length + 1) 0 [] (by omega) (.inl bd_nil)
  have h2 := reread hG k hk (by rw [← h]; exact hX) ((X t j).length + 1) 0 [] (by rw [h]; omega) (.inl bd_nil)
  rw [← h, h1] at h2
  injection h2 with h2
  injection h2

end Go.Proofs.YtdmogjhabladcaaGreat.Tx3

/- Terms as trees: what a node is with all that lies below it. -/
namespace Go.Proofs.YtdmogjhabladcaaGreat.Tr0
open Nd0 Pl1 Tm0 Tm1 Tm3 Tm8 Tx0 Tx1 Tx2 Tx3

inductive Tr where
  | leaf (op w k : Int)
  | one (op w k b : Int) (x : Tr)
  | two (op w : Int) (x y : Tr)
  | three (op w : Int) (x y z : Tr)
def Tr.nil : Tr := .leaf 0 0 0
def Tr.op : Tr → Int
  | .leaf o _ _ => o
  | .one o _ _ _ _ => o
  | .two o _ _ _ => o
  | .three o _ _ _ _ => o
def Tr.wid : Tr → Int
  | .leaf _ w _ => w
  | .one _ w _ _ _ => w
  | .two _ w _ _ => w
  | .three _ w _ _ _ => w
/-- A node over the trees of its parts. -/
def mkF (n : Nd) (f : Nat → Tr) : Tr :=
  if n.op = 2 ∨ n.op = 17 ∨ n.op = 19 ∨ n.op = 20 then .one n.op n.w n.k n.b (f n.a.toNat)
  else if 3 ≤ n.op ∧ n.op ≤ 16 then .two n.op n.w (f n.a.toNat) (f n.b.toNat)
  else if n.op = 18 then .three n.op n.w (f n.a.toNat) (f n.b.toNat) (f n.c.toNat)
  else .leaf n.op n.w n.k
def trTo (l : List Nd) : Nat → List Tr
  | 0 => []
  | k + 1 => trTo l k ++ [mkF (nth l k) fun i => (trTo l k).getD i Tr.nil]
/-- The tree of node i. -/
def tr (l : List Nd) (i : Nat) : Tr := (trTo l l.length).getD i Tr.nil

theorem mk_one {n : Nd} (h : n.op = 2 ∨ n.op = 17 ∨ n.op = 19 ∨ n.op = 20) (f : Nat → Tr) : mkF n f = .one n.op n.w n.k n.b (f n.a.toNat) := if_pos h
theorem mk_two {n : Nd} (h : 3 ≤ n.op ∧ n.op ≤ 16) (f : Nat → Tr) : mkF n f = .two n.op n.w (f n.a.toNat) (f n.b.toNat) := by unfold mkF; rw [if_neg (by omega), if_pos h]
theorem mk_three {n : Nd} (h : n.op = 18) (f : Nat → Tr) : mkF n f = .three n.op n.w (f n.a.toNat) (f n.b.toNat) (f n.c.toNat) := by unfold mkF; rw [if_neg (by omega), if_neg (by omega), if_pos h]
theorem mk_leaf {n : Nd} (h : ¬ (n.op = 2 ∨ n.op = 17 ∨ n.op = 19 ∨ n.op = 20)) (h2 : ¬ (3 ≤ n.op ∧ n.op ≤ 16)) (h3 : ¬ n.op = 18) (f : Nat → Tr) : mkF n f = .leaf n.op n.w n.k := by unfold mkF; rw [if_neg h, if_neg h2, if_neg h3]
theorem mk_op (n : Nd) (f : Nat → Tr) : (mkF n f).op = n.op := by
  unfold mkF
  split
  · rfl
  · split
    · rfl
    · split <;> rfl
theorem mk_wid (n : Nd) (f : Nat → Tr) : (mkF n f).wid = n.w := by
  unfold mkF
  split
  · rfl
  · split
    · rfl
    · split <;> rfl
theorem mk_congr {n : Nd} {f g : Nat → Tr} (h : ∀ p ∈ parts n, f p.toNat = g p.toNat) : mkF n f = mkF n g := by
  by_cases h1 : n.op = 2 ∨ n.op = 17 ∨ n.op = 19 ∨ n.op = 20
  · rw [parts_one h1] at h
    rw [mk_one h1, mk_one h1, h n.a (by simp)]
  · by_cases h2 : 3 ≤ n.op ∧ n.op ≤ 16
    · rw [parts_two h2] at h
      rw [mk_two h2, mk_two h2, h n.a (by simp), h n.b (by simp)]
    · by_cases h3 : n.op = 18
      · rw [parts_three h3] at h
        rw [mk_three h3, mk_three h3, h n.a (by simp), h n.b (by simp), h n.c (by simp)]
      · rw [mk_leaf h1 h2 h3, mk_leaf h1 h2 h3]
/-- The same node with other places for its parts. -/
theorem mk_parts {n : Nd} {is : List Nat} {f g : Nat → Tr} (hl : is.length = (parts n).length) (h : is.map f = (parts n).map (fun p => g p.toNat)) : mkF (reparts n is) f = mkF n g := by
  obtain ⟨op, w, k, a, b, c⟩ := n
  by_cases h1 : op = 2 ∨ op = 17 ∨ op = 19 ∨ op = 20
  · rw [parts_one h1] at hl h
    match is, hl, h with
    | [i], _, h =>
      simp only [List.map_cons, List.map_nil, List.cons.injEq, and_true] at h
      rw [mk_one (n := reparts ⟨op, w, k, a, b, c⟩ [i]) (by exact h1), mk_one (by exact h1), ← h]
      rfl
  · by_cases h2 : 3 ≤ op ∧ op ≤ 16
    · rw [parts_two h2] at hl h
      match is, hl, h with
      | [i, j], _, h =>
        simp only [List.map_cons, List.map_nil, List.cons.injEq, and_true] at h
        rw [mk_two (n := reparts ⟨op, w, k, a, b, c⟩ [i, j]) (by exact h2), mk_two (by exact h2), ← h.1, ← h.2]
        rfl
    · by_cases h3 : op = 18
      · rw [parts_three h3] at hl h
        match is, hl, h with
        | [i, j, m], _, h =>
          simp only [List.map_cons, List.map_nil, List.cons.injEq, and_true] at h
          rw [mk_three (n := reparts ⟨op, w, k, a, b, c⟩ [i, j, m]) (by exact h3), mk_three (by exact h3), ← h.1, ← h.2.1, ← h.2.2]
          rfl
      · rw [mk_leaf (n := reparts ⟨op, w, k, a, b, c⟩ is) (by exact h1) (by exact h2) (by exact h3), mk_leaf (by exact h1) (by exact h2) (by exact h3)]
        rfl
theorem trTo_length (l : List Nd) (k : Nat) : (trTo l k).length = k := by
  induction k with
  | zero => rfl
  | succ k ih => show (trTo l k ++ [_]).length = _; rw [List.length_append, ih]; rfl
theorem tr_prefix (l : List Nd) {i k : Nat} (hi : i < k) : ∀ n, k ≤ n → (trTo l n).getD i Tr.nil = (trTo l k).getD i Tr.nil := by
  intro n hn
  obtain ⟨d, rfl⟩ : ∃ d, n = k + d := ⟨n - k, by omega⟩
  clear hn
  induction d with
  | zero => rfl
  | succ d ih =>
    rw [← ih]
    show (trTo l (k + d) ++ [_]).getD i Tr.nil = _
    rw [List.getD_eq_getElem?_getD, List.getElem?_append_left (by rw [trTo_length]; omega), ← List.getD_eq_getElem?_getD]
theorem tr_at {l : List Nd} (hD : Down l) {i : Nat} (hi : i < l.length) : tr l i = mkF (nth l i) (tr l) := by
  unfold tr
  rw [tr_prefix l (k := i + 1) (by omega) l.length (by omega)]
  show (trTo l i ++ [mkF (nth l i) fun j => (trTo l i).getD j Tr.nil]).getD i Tr.nil = _
  rw [List.getD_eq_getElem?_getD, List.getElem?_append_right (by rw [trTo_length]; exact Nat.le_refl _), trTo_length, Nat.sub_self]
  show mkF (nth l i) (fun j => (trTo l i).getD j Tr.nil) = _
  refine mk_congr (fun p hp => ?_)
  have := hD i hi p hp
  exact (tr_prefix l (i := p.toNat) (k := i) (by omega) l.length (by omega)).symm
theorem trTo_app (t m : List Nd) : ∀ k, k ≤ t.length → trTo (t ++ m) k = trTo t k := by
  intro k
  induction k with
  | zero => intro _; rfl
  | succ k ih =>
    intro hk
    show trTo (t ++ m) k ++ [_] = trTo t k ++ [_]
    rw [ih (by omega), nth_app (by omega)]
theorem tr_app (t m : List Nd) {j : Nat} (h : j < t.length) : tr (t ++ m) j = tr t j := by
  unfold tr
  rw [tr_prefix (t ++ m) (k := t.length) h (t ++ m).length (by simp), trTo_app t m _ (Nat.le_refl _)]
theorem tr_same {l T : List Nd} (hD : Down l) (hT : Down T) {i j : Nat} (hi : i < l.length) (hj : j < T.length) {is : List Nat} (hl : is.length = (parts (nth l i)).length)
    (hn : nth T j = reparts (nth l i) is) (hx : is.map (tr T) = (parts (nth l i)).map (fun p => tr l p.toNat)) : tr T j = tr l i := by
  rw [tr_at hD hi, tr_at hT hj, hn]
  exact mk_parts hl hx

end Go.Proofs.YtdmogjhabladcaaGreat.Tr0

/- A term's text is read as a list with a node of that text; what a text that is cut off is read as. -/
namespace Go.Proofs.YtdmogjhabladcaaGreat.Tx4
open Nd0 Pl1 Tm0 Tm1 Tm3 Tm8 Tx0 Tx1 Tx2 Tx3 Tr0

theorem with_maps {ts us : List (List UInt8)} : ∀ (ps qs : List Int) (h : List UInt8), ps.map (txt ts) = qs.map (txt us) → withParts ts h ps = withParts us h qs := by
  intro ps
  induction ps with
  | nil => intro qs h e
           cases qs with
           | nil => rfl
           | cons q qs => cases e
  | cons p ps ih =>
    intro qs h e
    cases qs with
    | nil => cases e
    | cons q qs =>
      simp only [List.map_cons, List.cons.injEq] at e
      simp only [withParts]
      rw [e.1, ih qs _ e.2]
theorem parts_reparts {n : Nd} {is : List Nat} (hl : is.length = (parts n).length) : parts (reparts n is) = is.map fun (i : Nat) => (i : Int) := by
  obtain ⟨op, w, k, a, b, c⟩ := n
  by_cases h1 : op = 2 ∨ op = 17 ∨ op = 19 ∨ op = 20
  · rw [parts_one h1] at hl
    match is, hl with
    | [i], _ => exact parts_one (n := ⟨op, w, k, (i : Int), b, c⟩) h1
  · by_cases h2 : 3 ≤ op ∧ op ≤ 16
    · rw [parts_two h2] at hl
      match is, hl with
      | [i, j], _ => exact parts_two (n := ⟨op, w, k, (i : Int), (j : Int), c⟩) h2
    · by_cases h3 : op = 18
      · rw [parts_three h3] at hl
        match is, hl with
        | [i, j, m], _ => exact parts_three (n := ⟨op, w, k, (i : Int), (j : Int), (m : Int)⟩) h3
      · rw [parts_none h1 h2 h3] at hl
        have his : is = [] := List.eq_nil_of_length_eq_zero hl
        subst his
        exact parts_none (n := ⟨op, w, k, a, b, c⟩) h1 h2 h3
theorem head_reparts {n : Nd} {is : List Nat} (hl : is.length = (parts n).length) : headL (reparts n is) = headL n := by
  obtain ⟨op, w, k, a, b, c⟩ := n
  by_cases hq : op = 19 ∨ op = 20
  · rw [parts_one (by simp only; omega)] at hl
    match is, hl with
    | [i], _ => rcases hq with h | h <;> subst h <;> rfl
  · have h1 : ¬ op = 19 := by omega
    have h2 : ¬ op = 20 := by omega
    unfold headL reparts
    simp only [if_neg h1, if_neg h2]
theorem shape_reparts {n : Nd} {is : List Nat} (ws : List Int) (hl : is.length = (parts n).length) : shapeOk (reparts n is) ws = shapeOk n ws := by
  obtain ⟨op, w, k, a, b, c⟩ := n
  by_cases h1 : op = 2 ∨ op = 17 ∨ op = 19 ∨ op = 20
  · rw [parts_one h1] at hl
    match is, hl with
    | [i], _ =>
      show shapeOk ⟨op, w, k, (i : Int), b, c⟩ ws = _
      unfold shapeOk
      dsimp only
      rcases h1 with h | h | h | h <;> subst h <;> rfl
  · by_cases h2 : 3 ≤ op ∧ op ≤ 16
    · rw [parts_two h2] at hl
      match is, hl with
      | [i, j], _ =>
        show shapeOk ⟨op, w, k, (i : Int), (j : Int), c⟩ ws = _
        unfold shapeOk
        dsimp only
        have n0 : ¬ op = 0 := by omega
        have n1 : ¬ op = 1 := by omega
        have n2 : ¬ op = 2 := by omega
        have n3 : ¬ op = 17 := by omega
        have n4 : ¬ op = 18 := by omega
        have n5 : ¬ (op = 19 ∨ op = 20) := by omega
        simp only [if_neg n0, if_neg n1, if_neg n2, if_neg n3, if_neg n4, if_neg n5]
    · by_cases h3 : op = 18
      · rw [parts_three h3] at hl
        match is, hl with
        | [i, j, m], _ => subst h3; rfl
      · rw [parts_none h1 h2 h3] at hl
        have his : is = [] := List.eq_nil_of_length_eq_zero hl
        subst his
        rfl
/-- The text of a node whose parts have the texts of another's. -/
theorem X_same {l T : List Nd} (hD : Down l) (hT : Down T) {i j : Nat} (hi : i < l.length) (hj : j < T.length) {is : List Nat} (hl : is.length = (parts (nth l i)).length)
    (hn : nth T j = reparts (nth l i) is) (hx : is.map (fun (k : Nat) => X T k) = (parts (nth l i)).map (fun p => X l p.toNat)) : X T j = X l i := by
  rw [X_at hD hi, X_at hT hj, hn]
  have hd := hD i hi
  generalize nth l i = n at hl hx hd
  unfold showN
  have e1 : (reparts n is).op = n.op := rfl
  have e2 : (reparts n is).w = n.w := rfl
  have e3 : (reparts n is).k = n.k := rfl
  rw [e1, e2, e3, head_reparts hl, parts_reparts hl]
  have e4 : withParts (showTo T T.length) (headL n) (is.map fun (i : Nat) => (i : Int)) = withParts (showTo l l.length) (headL n) (parts n) := by
    apply with_maps
    rw [List.map_map]
    refine Eq.trans (b := is.map fun (k : Nat) => X T k) rfl (hx.trans ?_)
    apply List.map_congr_left
    intro p hp
    have := hd p hp
    unfold X
    congr 1; omega
  rw [e4]
theorem node_app {t m : List Nd} {k : Nat} (hk : k < t.length) : nodeOk (t ++ m) k = true ↔ nodeOk t k = true := by
  have key : (∀ p ∈ parts (nth t k), 0 ≤ p ∧ p < (k : Int)) → (parts (nth t k)).map (width (t ++ m)) = (parts (nth t k)).map (width t) := by
    intro h
    apply List.map_congr_left
    intro p hp
    have := h p hp
    unfold width
    rw [nth_app (by omega)]
  simp only [nodeOk, Bool.and_eq_true, List.all_eq_true, decide_eq_true_eq]
  rw [nth_app hk]
  constructor
  · rintro ⟨⟨h1, h2⟩, h3⟩
    rw [key h1] at h3; exact ⟨⟨h1, h2⟩, h3⟩
  · rintro ⟨⟨h1, h2⟩, h3⟩
    rw [← key h1] at h3; exact ⟨⟨h1, h2⟩, h3⟩
theorem neat_nil : Neat [] := ⟨fun k h => by simp at h, fun j k h => by simp at h⟩
/-- A right node that is not there yet, put behind a good list. -/
theorem neat_snoc {t : List Nd} {n : Nd} (hG : Neat t) (hn : nodeOk (t ++ [n]) t.length = true) (hp : placeOf t n = none) : Neat (t ++ [n]) := by
  refine ⟨fun k hk => ?_, fun j k hj hk e => ?_⟩
  · by_cases h : k < t.length
    · exact (node_app h).2 (hG.ok k h)
    · have : k = t.length := by simp at hk; omega
      subst this; exact hn
  · simp at hj hk
    by_cases h1 : j < t.length
    · by_cases h2 : k < t.length
      · rw [nth_app h1, nth_app h2] at e; exact hG.one j k h1 h2 e
      · have : k = t.length := by omega
        subst this
        rw [nth_app h1, nth_end] at e
        exact absurd e (place_none hp h1)
    · have hj' : j = t.length := by omega
      by_cases h2 : k < t.length
      · subst hj'
        rw [nth_app h2, nth_end] at e
        exact absurd e.symm (place_none hp h2)
      · omega
/-- Every node of t has the text of one of l. -/
def Emb (l t : List Nd) : Prop := ∀ j, j < t.length → X t j ≠ [] ∧ ∃ i, i < l.length ∧ X t j = X l i ∧ tr t j = tr l i
theorem length_le_of_inj {α : Type} [DecidableEq α] : ∀ (a b : List α), a.Nodup → (∀ x ∈ a, x ∈ b) → a.length ≤ b.length := by
  intro a
  induction a with
  | nil => intro b _ _; exact Nat.zero_le _
  | cons x a ih =>
    intro b hn hs
    have hx : x ∈ b := hs x (by simp)
    have hn' := List.nodup_cons.1 hn
    have := ih (b.erase x) hn'.2 (fun y hy => by
      have hne : y ≠ x := by intro e; subst e; exact hn'.1 hy
      exact (List.mem_erase_of_ne hne).2 (hs y (by simp [hy])))
    rw [List.length_erase_of_mem hx] at this
    have : 0 < b.length := List.length_pos_of_mem hx
    simp only [List.length_cons]; omega
/-- A good list whose texts are all among those of l, and which lacks one, is shorter. -/
theorem emb_short {l t : List Nd} (hG : Neat t) (hE : Emb l t) {i : Nat} (hi : i < l.length) (hn : ∀ j, j < t.length → X t j ≠ X l i) : t.length + 1 ≤ l.length := by
  have h := length_le_of_inj (X l i :: (List.range t.length).map (X t)) ((List.range l.length).map (X l)) (by
    rw [List.nodup_cons]
    refine ⟨?_, ?_⟩
    · intro hm
      obtain ⟨j, hj, e⟩ := List.mem_map.1 hm
      exact hn j (List.mem_range.1 hj) e
    · rw [List.nodup_iff_pairwise_ne, List.pairwise_map]
      refine List.Pairwise.imp_of_mem ?_ (List.nodup_range (n := t.length))
      intro a b ha hb hab e
      exact hab (text_inj hG (List.mem_range.1 ha) (List.mem_range.1 hb) (hE a (List.mem_range.1 ha)).1 e)) (by
    intro x hx
    rcases List.mem_cons.1 hx with e | e
    · subst e; exact List.mem_map.2 ⟨i, List.mem_range.2 hi, rfl⟩
    · obtain ⟨j, hj, rfl⟩ := List.mem_map.1 e
      obtain ⟨i', hi', e', _⟩ := (hE j (List.mem_range.1 hj)).2
      exact List.mem_map.2 ⟨i', List.mem_range.2 hi', e'.symm⟩)
  simpa using h
/-- What reading the text of node i of l does to a good list t. -/
def Reads (l : List Nd) (i : Nat) : Prop := ∀ t, Neat t → Emb l t → t.length ≤ 80 → ∃ t' j m, t' = t ++ m ∧ Neat t' ∧ Emb l t' ∧ t'.length ≤ 80 ∧ j < t'.length ∧ X t' j = X l i ∧ tr t' j = tr l i ∧ (nth t' j).w = (nth l i).w ∧
  ∀ g p q, (X l i).length < g → (Bd q ∨ opens (X l i) = true) → rdL g ⟨p, X l i ++ q, t⟩ = .ok (⟨p + (X l i).length, q, t'⟩, j)
/-- The same of parts one behind the other. -/
theorem parts_reads {l : List Nd} (ps : List Int) (B : Nat) (h : ∀ p ∈ ps, 0 ≤ p ∧ Reads l p.toNat ∧ txt (showTo l l.length) p = X l p.toNat ∧ (X l p.toNat).length < B) :
    ∀ t, Neat t → Emb l t → t.length ≤ 80 → ∃ (t' : List Nd) (is : List Nat) (m : List Nd), t' = t ++ m ∧ Neat t' ∧ Emb l t' ∧ t'.length ≤ 80 ∧ is.length = ps.length ∧ (∀ i ∈ is, i < t'.length) ∧
      is.map (fun (k : Nat) => X t' k) = ps.map (fun p => X l p.toNat) ∧ is.map (tr t') = ps.map (fun p => tr l p.toNat) ∧ is.map (fun (i : Nat) => width t' (i : Int)) = ps.map (width l) ∧
      ∀ g p0 p q, B ≤ g → Bd q → partsL (rdL g) p0 ps.length ⟨p, tails (showTo l l.length) ps ++ q, t⟩ = .ok (⟨p + (tails (showTo l l.length) ps).length, q, t'⟩, is) := by
  induction ps with
  | nil =>
    intro t hG hE h80
    exact ⟨t, [], [], by simp, hG, hE, h80, rfl, fun i hi => (by cases hi), rfl, rfl, rfl, fun g p0 p q _ _ => rfl⟩
  | cons a ps ih =>
    intro t hG hE h80
    obtain ⟨ha0, har, hat, haB⟩ := h a (by simp)
    obtain ⟨t1, j, m1, e1, hG1, hE1, h1, hj, hX, hTr, hw, hr⟩ := har t hG hE h80
    obtain ⟨t2, is, m2, e2, hG2, hE2, h2, hl, hlt, hXs, hTs, hws, hrs⟩ := ih (fun p hp => h p (by simp [hp])) t1 hG1 hE1 h1
    have hj2 : j < t2.length := by rw [e2]; simp; omega
    refine ⟨t2, j :: is, m1 ++ m2, by rw [e2, e1]; simp, hG2, hE2, h2, by simp [hl], ?_, ?_, ?_, ?_, ?_⟩
    · intro i hi
      rcases List.mem_cons.1 hi with e | e
      · subst e; exact hj2
      · exact hlt i e
    · simp only [List.map_cons]
      rw [hXs, e2, X_app t1 m2 hj, hX]
    · simp only [List.map_cons]
      rw [hTs, e2, tr_app t1 m2 hj, hTr]
    · simp only [List.map_cons]
      rw [hws]
      congr 1
      unfold width
      rw [Int.toNat_natCast, e2, nth_app hj, hw]
    · intro g p0 p q hg hq
      have k1 := hr g (p + 1) (tails (showTo l l.length) ps ++ q) (by omega) (.inl (bd_tails _ _ hq))
      have k2 := hrs g p0 (p + 1 + (X l a.toNat).length) q hg hq
      have e3 : tails (showTo l l.length) (a :: ps) ++ q = 32 :: (X l a.toNat ++ (tails (showTo l l.length) ps ++ q)) := by simp [tails, hat]
      rw [e3, List.length_cons]
      simp only [partsL]
      rw [blank_mk]
      simp only
      rw [k1]
      simp only
      rw [k2]
      simp only
      congr 3
      simp [tails, hat]; omega
/-- The text of any node that has one is read. -/
theorem reads_all {l : List Nd} (hN : ∀ k, k < l.length → nodeOk l k = true) (hD : Down l) (hl80 : l.length ≤ 80) : ∀ i, i < l.length → X l i ≠ [] → Reads l i := by
  intro i
  induction i using Nat.strongRecOn with
  | ind i ih =>
    intro hi hX t hG hE h80
    have hpp : ∀ p ∈ parts (nth l i), 0 ≤ p ∧ Reads l p.toNat ∧ txt (showTo l l.length) p = X l p.toNat ∧ (X l p.toNat).length < (X l i).length := by
      intro p hp
      have hd := hD i hi p hp
      obtain ⟨c1, c2, c3, c4⟩ := part_text hD hi hX hp
      exact ⟨hd.1, ih p.toNat (by omega) (by omega) c2, c1, by omega⟩
    obtain ⟨t2, is, m2, e2, hG2, hE2, h2, hl, hlt, hXs, hTs, hws, hrs⟩ := parts_reads (parts (nth l i)) (X l i).length hpp t hG hE h80
    have hD2 := hG2.down
    have key : ∀ g p q, (X l i).length ≤ g → (Bd q ∨ opens (X l i) = true) → rdL (g + 1) ⟨p, X l i ++ q, t⟩ = match putL t2 (reparts (nth l i) is) p with
        | .error e => .error e
        | .ok (t3, j) => .ok (⟨p + (X l i).length, q, t3⟩, j) := fun g p q hg hq =>
      node_read hN hD hi hX hl hws (fun p0 p q hq => hrs g p0 p q hg hq) p q hq
    have key2 : ∀ g p q, (X l i).length ≤ g → (Bd q ∨ opens (X l i) = true) → rdL (g + 1) ⟨p, X l i ++ q, t2⟩ = match putL t2 (reparts (nth l i) is) p with
        | .error e => .error e
        | .ok (t3, j) => .ok (⟨p + (X l i).length, q, t3⟩, j) := by
      intro g p q hg hq
      refine node_read hN hD hi hX hl hws (fun p0 => ?_) p q hq
      refine parts_seq (showTo l l.length) p0 (parts (nth l i)) is hl ?_
      intro x hx p q hq
      obtain ⟨k, hk, rfl⟩ := List.getElem_of_mem hx
      have hk1 : k < (parts (nth l i)).length := by rw [List.length_zip] at hk; omega
      have hk2 : k < is.length := by omega
      rw [List.getElem_zip]
      simp only
      have hm := List.getElem_mem hk1
      obtain ⟨c0, c1, c2, c3⟩ := hpp _ hm
      obtain ⟨_, d2, _, _⟩ := part_text hD hi hX hm
      have hxe : X t2 is[k] = X l ((parts (nth l i))[k]).toNat := by
        have := congrArg (fun z => z[k]?) hXs
        simp only [List.getElem?_map, List.getElem?_eq_getElem hk1, List.getElem?_eq_getElem hk2, Option.map_some] at this
        exact Option.some.inj this
      rw [c2, ← hxe]
      exact reread hG2 is[k] (hlt _ (List.getElem_mem hk2)) (by rw [hxe]; exact d2) g p q (by rw [hxe]; omega) (.inl hq)
    cases hpl : placeOf t2 (reparts (nth l i) is) with
    | some j =>
      obtain ⟨hj, hn⟩ := place_some hpl
      refine ⟨t2, j, m2, e2, hG2, hE2, h2, hj, X_same hD hD2 hi hj hl hn hXs, tr_same hD hD2 hi hj hl hn hTs, by rw [hn]; rfl, ?_⟩
      intro g p q hg hq
      cases g with
      | zero => omega
      | succ g =>
        rw [key g p q (by omega) hq]
        unfold putL
        rw [hpl]
    | none =>
      have hno : ∀ j, j < t2.length → X t2 j ≠ X l i := by
        intro j hj e
        have r1 := reread hG2 j hj (by rw [e]; exact hX) ((X l i).length + 1) 0 [] (by rw [e]; omega) (.inl bd_nil)
        rw [e, key2 (X l i).length 0 [] (Nat.le_refl _) (.inl bd_nil)] at r1
        unfold putL at r1
        rw [hpl] at r1
        simp only at r1
        split at r1
        · cases r1
        · rename_i t3 j3 he
          split at he
          · split at he
            · cases he
            · cases he
              injection r1 with r1
              injection r1 with r1 r2
              injection r1 with _ _ r1
              have := congrArg List.length r1
              simp at this
          · cases he
      have hshort := emb_short hG2 hE2 hi hno
      have hok := hN i hi
      have hnode : nodeOk (t2 ++ [reparts (nth l i) is]) t2.length = true := by
        have hwd := node_width hok
        have hsh : shapeOk (nth l i) ((parts (nth l i)).map (width l)) = true := by
          simp only [nodeOk, Bool.and_eq_true] at hok; exact hok.2
        have ew : (is.map fun (i : Nat) => (i : Int)).map (width (t2 ++ [reparts (nth l i) is])) = (parts (nth l i)).map (width l) := by
          rw [← hws, List.map_map]
          apply List.map_congr_left
          intro k hk
          have := hlt k hk
          simp only [Function.comp, width]
          rw [Int.toNat_natCast, nth_app this]
        simp only [nodeOk, Bool.and_eq_true, List.all_eq_true, decide_eq_true_eq]
        rw [nth_end, parts_reparts hl, ew, shape_reparts _ hl]
        refine ⟨⟨?_, hwd⟩, hsh⟩
        intro p hp
        obtain ⟨k, hk, rfl⟩ := List.mem_map.1 hp
        have := hlt k hk
        omega
      have hG3 := neat_snoc hG2 hnode hpl
      have hjl : t2.length < (t2 ++ [reparts (nth l i) is]).length := by simp
      have hXn : X (t2 ++ [reparts (nth l i) is]) t2.length = X l i := by
        refine X_same hD hG3.down hi hjl hl (nth_end _ _) ?_
        rw [← hXs]
        apply List.map_congr_left
        intro k hk
        exact X_app _ _ (hlt k hk)
      have hTn : tr (t2 ++ [reparts (nth l i) is]) t2.length = tr l i := by
        refine tr_same hD hG3.down hi hjl hl (nth_end _ _) ?_
        rw [← hTs]
        apply List.map_congr_left
        intro k hk
        exact tr_app _ _ (hlt k hk)
      refine ⟨t2 ++ [reparts (nth l i) is], t2.length, m2 ++ [reparts (nth l i) is], by rw [e2]; simp, hG3, ?_, by simp; omega, hjl, hXn, hTn, by rw [nth_end]; rfl, ?_⟩
      · intro j hj
        simp at hj
        by_cases h : j < t2.length
        · rw [X_app _ _ h, tr_app _ _ h]; exact hE2 j h
        · have : j = t2.length := by omega
          subst this
          rw [hXn, hTn]
          exact ⟨hX, i, hi, rfl, rfl⟩
      · intro g p q hg hq
        cases g with
        | zero => omega
        | succ g =>
          rw [key g p q (by omega) hq]
          unfold putL
          rw [hpl]
          simp only
          rw [if_pos hnode, if_neg (by omega)]
theorem term_all {l : List Nd} (hT : termOk l = true) : ∀ k, k < l.length → nodeOk l k = true := fun _ hk => term_node hT hk
theorem show_X {l : List Nd} (hT : termOk l = true) : showL l = X l (l.length - 1) := by
  have := term_len hT
  unfold showL X
  rw [if_pos hT]
  congr 1; omega
/-- What is written of a term is read: as a term of which the same is written. -/
theorem show_read {l : List Nd} (hT : termOk l = true) (hS : showL l ≠ []) :
    ∃ (t : List Nd) (j : Nat), Neat t ∧ t.length ≤ 80 ∧ j < t.length ∧ X t j = showL l ∧ Emb l t ∧ tr t j = tr l (l.length - 1) ∧ ∀ g q, (showL l).length < g → (Bd q ∨ opens (showL l) = true) → rdL g ⟨0, showL l ++ q, []⟩ = .ok (⟨(showL l).length, q, t⟩, j) := by
  have hl := term_len hT
  rw [show_X hT] at hS ⊢
  obtain ⟨t', j, m, e, hG, hE, h80, hj, hX, hTr, _, hr⟩ := reads_all (term_all hT) (down_of hT) hl.2 (l.length - 1) (by omega) hS [] neat_nil (fun j h => by simp at h) (by simp)
  refine ⟨t', j, hG, h80, hj, hX, hE, hTr, fun g q hg hq => ?_⟩
  have := hr g 0 q hg hq
  rw [Nat.zero_add] at this
  exact this
theorem show_len {l : List Nd} (hT : termOk l = true) : (showL l).length ≤ 4000 := by
  have hl := term_len hT
  rw [show_X hT]
  exact X_len (term_all hT) (down_of hT) (by omega)
/-- The canonical form: right, with the same text. -/
theorem canon_tree {l : List Nd} (hT : termOk l = true) (hS : showL l ≠ []) : ∃ u, readL (showL l) = (u, 0, 0) ∧ termOk u = true ∧ showL u = showL l ∧ Neat u ∧ Emb l u ∧ tr u (u.length - 1) = tr l (l.length - 1) := by
  obtain ⟨t, j, hG, h80, hj, hX, hE, hTr, hr⟩ := show_read hT hS
  have k := hr ((showL l).length + 1) [] (by omega) (.inl bd_nil)
  rw [List.append_nil] at k
  have hsplit : t = t.take (j + 1) ++ t.drop (j + 1) := (List.take_append_drop _ _).symm
  have hlen : (t.take (j + 1)).length = j + 1 := by rw [List.length_take]; omega
  have hTu : termOk (t.take (j + 1)) = true := by
    refine term_good (by omega) (fun k hk => ?_)
    have h1 := hG.ok k (by omega)
    rw [hsplit] at h1
    exact (node_app hk).1 h1
  have hXt : ∀ i, i < j + 1 → X (t.take (j + 1)) i = X t i := fun i hi => by
    have := X_app (t.take (j + 1)) (t.drop (j + 1)) (j := i) (by omega)
    rw [← hsplit] at this
    exact this.symm
  have hRt : ∀ i, i < j + 1 → tr (t.take (j + 1)) i = tr t i := fun i hi => by
    have := tr_app (t.take (j + 1)) (t.drop (j + 1)) (j := i) (by omega)
    rw [← hsplit] at this
    exact this.symm
  have hNt : ∀ i, i < j + 1 → nth (t.take (j + 1)) i = nth t i := fun i hi => by
    have := nth_app (t := t.take (j + 1)) (m := t.drop (j + 1)) (j := i) (by omega)
    rw [← hsplit] at this
    exact this.symm
  refine ⟨t.take (j + 1), ?_, hTu, ?_, ⟨fun k hk => term_node hTu hk, fun a b ha hb e => ?_⟩, fun i hi => ?_, ?_⟩
  · unfold readL
    rw [if_neg (by have := show_len hT; omega), k]
    rfl
  · rw [show_X hTu, hlen, Nat.add_sub_cancel, ← hX]
    have := X_app (t.take (j + 1)) (t.drop (j + 1)) (j := j) (by omega)
    rw [← hsplit] at this
    exact this.symm
  · rw [hNt a (by omega), hNt b (by omega)] at e
    exact hG.one a b (by omega) (by omega) e
  · rw [hXt i (by omega), hRt i (by omega)]
    exact hE i (by omega)
  · rw [hlen, Nat.add_sub_cancel, hRt j (by omega)]
    exact hTr
theorem canon_all {l : List Nd} (hT : termOk l = true) (hS : showL l ≠ []) : ∃ u, readL (showL l) = (u, 0, 0) ∧ termOk u = true ∧ showL u = showL l := by
  obtain ⟨u, h1, h2, h3, _⟩ := canon_tree hT hS
  exact ⟨u, h1, h2, h3⟩
/-- A text in brackets that is cut off is none. -/
theorem cut_none {l : List Nd} (hT : termOk l = true) (hS : showL l ≠ []) (ho : opens (showL l) = true) {m : Nat} (hm : m < (showL l).length) : (readL ((showL l).take m)).2.1 ≠ 0 := by
  obtain ⟨t, j, hG, h80, hj, hX, _, _, hr⟩ := show_read hT hS
  have k := hr ((showL l).length + 1) [] (by omega) (.inl bd_nil)
  rw [List.append_nil] at k
  have hl := show_len hT
  intro h0
  unfold readL at h0
  rw [if_neg (by rw [List.length_take]; omega)] at h0
  split at h0
  · rename_i c p he
    have := (rd_fail _ _ _ he).1
    simp only at this h0
    omega
  · rename_i st i he
    split at h0
    · rename_i hz
      have er : st.r = [] := List.eq_nil_of_length_eq_zero hz
      obtain ⟨x, a1, a2, a3, a4⟩ := rd_local _ _ _ _ he
      rw [er, List.append_nil] at a1
      simp only at a1
      have hox : opens x = true := by
        have e1 : showL l = x ++ (showL l).drop m := by rw [← a1]; exact (List.take_append_drop _ _).symm
        rw [e1, opens_app _ a3] at ho; exact ho
      have hxl : x.length = m := by rw [← a1, List.length_take]; omega
      have k2 := a4 ((showL l).length + 1) ((showL l).drop m) (by omega) (.inr hox)
      simp only at k2
      rw [← a1, List.take_append_drop, k] at k2
      injection k2 with k2
      injection k2 with k2 _
      injection k2 with _ k2 _
      have := congrArg List.length k2
      rw [List.length_drop] at this
      simp at this
      omega
    · simp only at h0; omega

end Go.Proofs.YtdmogjhabladcaaGreat.Tx4
