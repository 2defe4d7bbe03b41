/- The text of a node is read as that node, when its parts are. -/
import Derived.Test.YtebejleeadofcaaTx1
import Derived.Test.YtebejleeadofcaaTm8
namespace Go.Proofs.Ytebejleeadofcaa.Tx2
open Nd0 Pl1 Tm0 Tm1 Tm3 Tm8 Tx0 Tx1

/-- The text of node i. -/
def X (l : List Nd) (i : Nat) : List UInt8 := txt (showTo l l.length) (i : Int)
theorem txt_nat (ts : List (List UInt8)) (i : Nat) : txt ts (i : Int) = ts.getD i [] := by simp [txt]
theorem show_new (l : List Nd) (k : Nat) : txt (showTo l (k + 1)) (k : Int) = showN (nth l k) (showTo l k) := by
  rw [txt_nat]
  show (showTo l k ++ [_]).getD k [] = _
  rw [List.getD_eq_getElem?_getD, List.getElem?_append_right (by rw [showTo_length]; exact Nat.le_refl _), showTo_length]
  simp
theorem show_old (l : List Nd) {k i : Nat} (h : i < k) : txt (showTo l (k + 1)) (i : Int) = txt (showTo l k) (i : Int) := by
  rw [txt_nat, txt_nat]
  show (showTo l k ++ [_]).getD i [] = _
  rw [List.getD_eq_getElem?_getD, List.getElem?_append_left (by rw [showTo_length]; exact h), ← List.getD_eq_getElem?_getD]
theorem show_prefix (l : List Nd) {k n i : Nat} (hi : i < k) (hk : k ≤ n) : txt (showTo l n) (i : Int) = txt (showTo l k) (i : Int) := by
  induction n with
  | zero => omega
  | succ n ih =>
    by_cases e : k = n + 1
    · subst e; rfl
    · rw [← ih (by omega)]; exact show_old l (by omega)
theorem with_congr {ts us : List (List UInt8)} : ∀ (ps : List Int) (h : List UInt8), (∀ p ∈ ps, txt ts p = txt us p) → withParts ts h ps = withParts us h ps := by
  intro ps
  induction ps with
  | nil => intro h _; rfl
  | cons p ps ih =>
    intro h hp
    simp only [withParts]
    rw [hp p (by simp), ih _ (fun q hq => hp q (by simp [hq]))]
theorem showN_congr {ts us : List (List UInt8)} {n : Nd} (h : ∀ p ∈ parts n, txt ts p = txt us p) : showN n ts = showN n us := by
  unfold showN; rw [with_congr (parts n) (headL n) h]
theorem X_at {l : List Nd} (hD : Down l) {i : Nat} (hi : i < l.length) : X l i = showN (nth l i) (showTo l l.length) := by
  unfold X
  rw [show_prefix l (k := i + 1) (n := l.length) (by omega) (by omega), show_new]
  apply showN_congr
  intro p hp
  have hd := hD i hi p hp
  obtain ⟨y, rfl⟩ : ∃ y : Nat, p = (y : Int) := ⟨p.toNat, by omega⟩
  exact (show_prefix l (k := i) (n := l.length) (by omega) (by omega)).symm
theorem nth_app {t m : List Nd} {j : Nat} (h : j < t.length) : nth (t ++ m) j = nth t j := by
  unfold nth
  rw [List.getD_eq_getElem?_getD, List.getElem?_append_left h, ← List.getD_eq_getElem?_getD]
theorem nth_end (t : List Nd) (n : Nd) : nth (t ++ [n]) t.length = n := by
  unfold nth
  rw [List.getD_eq_getElem?_getD, List.getElem?_append_right (Nat.le_refl _)]
  simp
theorem showTo_app (t m : List Nd) : ∀ k, k ≤ t.length → showTo (t ++ m) k = showTo t k := by
  intro k
  induction k with
  | zero => intro _; rfl
  | succ k ih =>
    intro hk
    show showTo (t ++ m) k ++ [_] = showTo t k ++ [_]
    rw [ih (by omega), nth_app (by omega)]
theorem X_app (t m : List Nd) {j : Nat} (h : j < t.length) : X (t ++ m) j = X t j := by
  unfold X
  rw [show_prefix (t ++ m) (k := t.length) (n := (t ++ m).length) h (by simp), showTo_app t m _ (Nat.le_refl _)]
/-- The texts of parts, a blank ahead of each. -/
def tails (ts : List (List UInt8)) (ps : List Int) : List UInt8 := ps.flatMap fun p => 32 :: txt ts p
theorem with_some {ts : List (List UInt8)} : ∀ (ps : List Int) (h r : List UInt8), withParts ts h ps = some r → r = h ++ tails ts ps ∧ ∀ p ∈ ps, txt ts p ≠ [] := by
  intro ps
  induction ps with
  | nil => intro h r e; cases e; exact ⟨by simp [tails], fun p hp => by cases hp⟩
  | cons p ps ih =>
    intro h r e
    simp only [withParts] at e
    split at e
    · cases e
    · rename_i hne
      obtain ⟨h1, h2⟩ := ih _ _ e
      refine ⟨?_, ?_⟩
      · rw [h1]; simp [tails]
      · intro q hq
        rcases List.mem_cons.1 hq with e1 | e1
        · subst e1; exact hne
        · exact h2 q e1
theorem with_back {ts : List (List UInt8)} : ∀ (ps : List Int) (h : List UInt8), (∀ p ∈ ps, txt ts p ≠ []) → withParts ts h ps = some (h ++ tails ts ps) := by
  intro ps
  induction ps with
  | nil => intro h _; simp [withParts, tails]
  | cons p ps ih =>
    intro h hp
    simp only [withParts]
    rw [if_neg (hp p (by simp)), ih _ (fun q hq => hp q (by simp [hq]))]
    simp [tails]
/-- The text of a node in brackets. -/
theorem showN_inner {n : Nd} {ts : List (List UInt8)} (h0 : n.op ≠ 0) (h1 : n.op ≠ 1) (h : showN n ts ≠ []) : showN n ts = 40 :: (headL n ++ (tails ts (parts n) ++ [41])) ∧ (∀ p ∈ parts n, txt ts p ≠ []) ∧ (headL n ++ tails ts (parts n)).length + 2 ≤ 4000 := by
  unfold showN at h ⊢
  rw [if_neg h0, if_neg h1] at h ⊢
  cases hw : withParts ts (headL n) (parts n) with
  | none => rw [hw] at h; exact absurd rfl h
  | some r =>
    rw [hw] at h
    obtain ⟨a1, a2⟩ := with_some _ _ _ hw
    subst a1
    simp only at h ⊢
    split at h
    · exact absurd rfl h
    · rename_i hl
      rw [if_neg hl]
      exact ⟨by simp, a2, by omega⟩

/-- A node's own numbers as a reader has them ahead of its parts. -/
def hdr (n : Nd) : Nd :=
  if n.op = 17 then ⟨n.op, n.w, n.k, 0, 0, 0⟩ else if n.op = 19 ∨ n.op = 20 then ⟨n.op, 1, n.k, 0, n.b, 0⟩ else ⟨n.op, 0, 0, 0, 0, 0⟩
theorem dig_word {c : UInt8} (h : isDig c = true) : inWord c = true ∧ (c != 58) = true := by
  unfold isDig at h
  simp at h
  have h1 : c ≠ 32 := by intro e; subst e; simp at h
  have h2 : c ≠ 41 := by intro e; subst e; simp at h
  have h3 : c ≠ 58 := by intro e; subst e; simp at h
  unfold inWord
  simp [h1, h2, h3]
theorem dec_word (n : Nat) : ∀ c ∈ dec n, inWord c = true := fun c hc => (dig_word (dec_all n c hc)).1
theorem two_dec (h : UInt8) {a b : Nat} (ha : a < 10 ^ 9) (hb : b < 10 ^ 9) : twoL h (h :: (dec a ++ (58 :: dec b))) = some (a, b) := by
  have key : ∀ s : List UInt8, (∀ c ∈ s, (c != 58) = true) → (s ++ (58 :: dec b)).takeWhile (fun x => x != 58) = s ∧ (s ++ (58 :: dec b)).dropWhile (fun x => x != 58) = 58 :: dec b := by
    intro s
    induction s with
    | nil => intro _; exact ⟨rfl, rfl⟩
    | cons c s ih =>
      intro hs
      have h1 := hs c (by simp)
      have h2 := ih (fun d hd => hs d (by simp [hd]))
      rw [List.cons_append, List.takeWhile_cons, List.dropWhile_cons, h1, if_pos rfl, if_pos rfl, h2.1, h2.2]
      exact ⟨rfl, rfl⟩
  obtain ⟨k1, k2⟩ := key (dec a) (fun c hc => (dig_word (dec_all a c hc)).2)
  simp only [twoL, ↓reduceIte]
  rw [k1, k2, num_dec ha]
  simp only
  rw [num_dec hb]
theorem two_word (h : UInt8) (hh : inWord h = true) (a b : Nat) : ∀ c ∈ h :: (dec a ++ (58 :: dec b)), inWord c = true := by
  intro c hc
  rcases List.mem_cons.1 hc with e | e
  · subst e; exact hh
  · rcases List.mem_append.1 e with e | e
    · exact dec_word a c e
    · rcases List.mem_cons.1 e with e | e
      · subst e; rfl
      · exact dec_word b c e
/-- The head of a right node in brackets is read as its operator and its numbers. -/
theorem head_read {n : Nd} {ws : List Int} (hs : shapeOk n ws = true) (hw : 1 ≤ n.w ∧ n.w ≤ 8) (hws : ∀ x ∈ ws, x ≤ 8) (h0 : n.op ≠ 0) (h1 : n.op ≠ 1) :
    ∃ w hd, headL n = w ++ hd ∧ (∀ c ∈ w, inWord c = true) ∧ opOf w = some (n.op, (parts n).length) ∧ (∀ y, Bd y → Bd (hd ++ y)) ∧ ∀ p q t, Bd q → numsL n.op ⟨p, hd ++ q, t⟩ = some (⟨p + hd.length, q, t⟩, hdr n) := by
  obtain ⟨op, w, k, a, b, c⟩ := n
  simp only at h0 h1 hw
  have hnil : ∀ y : List UInt8, Bd y → Bd ([] ++ y) := fun y hy => hy
  have plain : ∀ op : Int, op ≠ 17 → op ≠ 19 → op ≠ 20 → ∀ (p : Nat) (q : List UInt8) (t : List Nd), Bd q → numsL op ⟨p, [] ++ q, t⟩ = some (⟨p + ([] : List UInt8).length, q, t⟩, hdr ⟨op, w, k, a, b, c⟩) := by
    intro op h17 h19 h20 p q t _
    unfold numsL hdr
    simp only
    rw [if_neg h17, if_neg (by omega), if_neg h17, if_neg (by omega)]
    rfl
  have hop : op = 2 ∨ op = 3 ∨ op = 4 ∨ op = 5 ∨ op = 6 ∨ op = 7 ∨ op = 8 ∨ op = 9 ∨ op = 10 ∨ op = 11 ∨ op = 12 ∨ op = 13 ∨ op = 14 ∨ op = 15 ∨ op = 16 ∨ op = 17 ∨ op = 18 ∨ op = 19 ∨ op = 20 := by
    unfold shapeOk at hs
    simp only at hs
    rw [if_neg h0, if_neg h1] at hs
    by_cases e : op = 2
    · omega
    · rw [if_neg e] at hs
      by_cases e : 3 ≤ op ∧ op ≤ 12
      · omega
      · rw [if_neg e] at hs
        by_cases e : 13 ≤ op ∧ op ≤ 15
        · omega
        · rw [if_neg e] at hs
          by_cases e : op = 16
          · omega
          · rw [if_neg e] at hs
            by_cases e : op = 17
            · omega
            · rw [if_neg e] at hs
              by_cases e : op = 18
              · omega
              · rw [if_neg e] at hs
                by_cases e : op = 19 ∨ op = 20
                · omega
                · rw [if_neg e] at hs; cases hs
  rcases hop with e | e | e | e | e | e | e | e | e | e | e | e | e | e | e | e | e | e | e <;> subst e
  · exact ⟨wNot, [], by simp [headL], by decide, rfl, hnil, plain 2 (by omega) (by omega) (by omega)⟩
  · exact ⟨[97, 110, 100], [], by simp [headL, wordsL], by decide, rfl, hnil, plain 3 (by omega) (by omega) (by omega)⟩
  · exact ⟨[111, 114], [], by simp [headL, wordsL], by decide, rfl, hnil, plain 4 (by omega) (by omega) (by omega)⟩
  · exact ⟨[120, 111, 114], [], by simp [headL, wordsL], by decide, rfl, hnil, plain 5 (by omega) (by omega) (by omega)⟩
  · exact ⟨[97, 100, 100], [], by simp [headL, wordsL], by decide, rfl, hnil, plain 6 (by omega) (by omega) (by omega)⟩
  · exact ⟨[115, 117, 98], [], by simp [headL, wordsL], by decide, rfl, hnil, plain 7 (by omega) (by omega) (by omega)⟩
  · exact ⟨[109, 117, 108], [], by simp [headL, wordsL], by decide, rfl, hnil, plain 8 (by omega) (by omega) (by omega)⟩
  · exact ⟨[100, 105, 118], [], by simp [headL, wordsL], by decide, rfl, hnil, plain 9 (by omega) (by omega) (by omega)⟩
  · exact ⟨[114, 101, 109], [], by simp [headL, wordsL], by decide, rfl, hnil, plain 10 (by omega) (by omega) (by omega)⟩
  · exact ⟨[115, 104, 108], [], by simp [headL, wordsL], by decide, rfl, hnil, plain 11 (by omega) (by omega) (by omega)⟩
  · exact ⟨[115, 104, 114], [], by simp [headL, wordsL], by decide, rfl, hnil, plain 12 (by omega) (by omega) (by omega)⟩
  · exact ⟨[61], [], by simp [headL, wordsL], by decide, rfl, hnil, plain 13 (by omega) (by omega) (by omega)⟩
  · exact ⟨[60], [], by simp [headL, wordsL], by decide, rfl, hnil, plain 14 (by omega) (by omega) (by omega)⟩
  · exact ⟨[115, 60], [], by simp [headL, wordsL], by decide, rfl, hnil, plain 15 (by omega) (by omega) (by omega)⟩
  · exact ⟨[106, 111, 105, 110], [], by simp [headL, wordsL], by decide, rfl, hnil, plain 16 (by omega) (by omega) (by omega)⟩
  · have hk : 0 ≤ k ∧ k ≤ 8 := by
      have hs' : decide (0 ≤ k ∧ k ≤ ws.getD 0 0 - w ∧ b = 0 ∧ c = 0) = true := hs
      replace hs := of_decide_eq_true hs'
      have hx : ws.getD 0 0 ≤ 8 := by
        cases ws with
        | nil => simp
        | cons x ws => simpa using hws x (by simp)
      omega
    refine ⟨wSlice, 32 :: (dec k.toNat ++ (32 :: dec w.toNat)), by simp [headL], by decide, rfl, fun y _ => bd_blank _, ?_⟩
    intro p q t hq
    have e1 : (32 :: (dec k.toNat ++ (32 :: dec w.toNat))) ++ q = 32 :: (dec k.toNat ++ (32 :: (dec w.toNat ++ q))) := by simp
    have m1 := word_mk (p + 1) t (dec_word k.toNat) (bd_blank (dec w.toNat ++ q))
    have m2 := word_mk (p + 1 + (dec k.toNat).length + 1) t (dec_word w.toNat) hq
    unfold numsL hdr
    rw [if_pos rfl, e1, blank_mk]
    simp only
    rw [m1.1, m1.2, num_dec (by omega), blank_mk]
    simp only
    rw [m2.1, m2.2, num_dec (by omega)]
    simp only [if_true]
    have ek : ((k.toNat : Nat) : Int) = k := by omega
    have ew : ((w.toNat : Nat) : Int) = w := by omega
    rw [ek, ew]
    congr 3
    simp; omega
  · exact ⟨wIf, [], by simp [headL], by decide, rfl, hnil, plain 18 (by omega) (by omega) (by omega)⟩
  · have hk : 0 ≤ k ∧ k ≤ 7 ∧ 1 ≤ b ∧ b ≤ 8 := by
      have hs' : decide (0 ≤ k ∧ k ≤ 7 ∧ 1 ≤ b ∧ b ≤ 8 ∧ ws.getD 0 0 = 1 ∧ w = 1 ∧ c = 0) = true := hs
      replace hs := of_decide_eq_true hs'
      omega
    refine ⟨wAll, 32 :: (118 :: (dec k.toNat ++ (58 :: dec b.toNat))), by simp [headL], by decide, rfl, fun y _ => bd_blank _, ?_⟩
    intro p q t hq
    have e1 : (32 :: (118 :: (dec k.toNat ++ (58 :: dec b.toNat)))) ++ q = 32 :: ((118 :: (dec k.toNat ++ (58 :: dec b.toNat))) ++ q) := rfl
    have m1 := word_mk (p + 1) t (two_word 118 rfl k.toNat b.toNat) hq
    show numsL 19 _ = some (_, (⟨19, 1, k, 0, b, 0⟩ : Nd))
    unfold numsL
    rw [if_neg (by decide), if_pos (by decide), e1, blank_mk]
    simp only
    rw [m1.1, m1.2, two_dec 118 (by omega) (by omega)]
    simp only
    have ek : ((k.toNat : Nat) : Int) = k := by omega
    have eb : ((b.toNat : Nat) : Int) = b := by omega
    rw [ek, eb]
    congr 3
    simp; omega
  · have hk : 0 ≤ k ∧ k ≤ 7 ∧ 1 ≤ b ∧ b ≤ 8 := by
      have hs' : decide (0 ≤ k ∧ k ≤ 7 ∧ 1 ≤ b ∧ b ≤ 8 ∧ ws.getD 0 0 = 1 ∧ w = 1 ∧ c = 0) = true := hs
      replace hs := of_decide_eq_true hs'
      omega
    refine ⟨wSome, 32 :: (118 :: (dec k.toNat ++ (58 :: dec b.toNat))), by simp [headL], by decide, rfl, fun y _ => bd_blank _, ?_⟩
    intro p q t hq
    have e1 : (32 :: (118 :: (dec k.toNat ++ (58 :: dec b.toNat)))) ++ q = 32 :: ((118 :: (dec k.toNat ++ (58 :: dec b.toNat))) ++ q) := rfl
    have m1 := word_mk (p + 1) t (two_word 118 rfl k.toNat b.toNat) hq
    show numsL 20 _ = some (_, (⟨20, 1, k, 0, b, 0⟩ : Nd))
    unfold numsL
    rw [if_neg (by decide), if_pos (by decide), e1, blank_mk]
    simp only
    rw [m1.1, m1.2, two_dec 118 (by omega) (by omega)]
    simp only
    have ek : ((k.toNat : Nat) : Int) = k := by omega
    have eb : ((b.toNat : Nat) : Int) = b := by omega
    rw [ek, eb]
    congr 3
    simp; omega

/-- A node with its parts told by other places. -/
def reparts (n : Nd) (is : List Nat) : Nd :=
  ⟨n.op, n.w, n.k, if 0 < is.length then (is.getD 0 0 : Nat) else n.a, if 1 < is.length then (is.getD 1 0 : Nat) else n.b, if 2 < is.length then (is.getD 2 0 : Nat) else n.c⟩
/-- What the reader makes of a right node's numbers and its parts. -/
theorem made_eq {n : Nd} {ws : List Int} {t : List Nd} {is : List Nat} (hs : shapeOk n ws = true) (hl : is.length = (parts n).length) (hwl : is.map (fun (i : Nat) => width t (i : Int)) = ws) (h0 : n.op ≠ 0) (h1 : n.op ≠ 1) : madeL (hdr n) t is = reparts n is := by
  obtain ⟨op, w, k, a, b, c⟩ := n
  simp only at h0 h1
  unfold shapeOk at hs
  simp only at hs
  rw [if_neg h0, if_neg h1] at hs
  have one : op = 2 ∨ op = 17 ∨ op = 19 ∨ op = 20 → ∃ i, is = [i] := by
    intro h
    rw [parts_one h] at hl
    match is, hl with
    | [i], _ => exact ⟨i, rfl⟩
  have two : 3 ≤ op ∧ op ≤ 16 → ∃ i j, is = [i, j] := by
    intro h
    rw [parts_two h] at hl
    match is, hl with
    | [i, j], _ => exact ⟨i, j, rfl⟩
  by_cases e : op = 2
  · subst e
    obtain ⟨i, rfl⟩ := one (by omega)
    rw [if_pos rfl] at hs
    subst hwl
    simp at hs
    unfold madeL hdr reparts
    simp
    omega
  rw [if_neg e] at hs
  by_cases e : 3 ≤ op ∧ op ≤ 12
  · obtain ⟨i, j, rfl⟩ := two (by omega)
    rw [if_pos e] at hs
    subst hwl
    simp at hs
    have e17 : ¬ op = 17 := by omega
    have eq : ¬ (op = 19 ∨ op = 20) := by omega
    have e3 : ¬ (op = 17 ∨ op = 19 ∨ op = 20) := by omega
    have e4 : ¬ (13 ≤ op ∧ op ≤ 15) := by omega
    have e5 : ¬ op = 16 := by omega
    have e6 : ¬ op = 18 := by omega
    unfold madeL hdr reparts
    simp only [if_neg e17, if_neg eq, if_neg e3, if_neg e4, if_neg e5, if_neg e6]
    simp
    omega
  rw [if_neg e] at hs
  by_cases e : 13 ≤ op ∧ op ≤ 15
  · obtain ⟨i, j, rfl⟩ := two (by omega)
    rw [if_pos e] at hs
    subst hwl
    simp at hs
    have e17 : ¬ op = 17 := by omega
    have eq : ¬ (op = 19 ∨ op = 20) := by omega
    have e3 : ¬ (op = 17 ∨ op = 19 ∨ op = 20) := by omega
    unfold madeL hdr reparts
    simp only [if_neg e17, if_neg eq, if_neg e3, if_pos e]
    simp
    omega
  rw [if_neg e] at hs
  by_cases e : op = 16
  · subst e
    obtain ⟨i, j, rfl⟩ := two (by omega)
    rw [if_pos rfl] at hs
    subst hwl
    simp at hs
    unfold madeL hdr reparts
    simp
    omega
  rw [if_neg e] at hs
  by_cases e : op = 17
  · subst e
    obtain ⟨i, rfl⟩ := one (by omega)
    rw [if_pos rfl] at hs
    subst hwl
    simp at hs
    unfold madeL hdr reparts
    simp
    omega
  rw [if_neg e] at hs
  by_cases e : op = 18
  · subst e
    rw [parts_three rfl] at hl
    obtain ⟨i, j, m, rfl⟩ : ∃ i j m, is = [i, j, m] := by
      match is, hl with
      | [i, j, m], _ => exact ⟨i, j, m, rfl⟩
    rw [if_pos rfl] at hs
    subst hwl
    simp at hs
    unfold madeL hdr reparts
    simp
    omega
  rw [if_neg e] at hs
  by_cases e : op = 19 ∨ op = 20
  · obtain ⟨i, rfl⟩ := one (by omega)
    rw [if_pos e] at hs
    subst hwl
    simp at hs
    have e17 : ¬ op = 17 := by omega
    have e3 : op = 17 ∨ op = 19 ∨ op = 20 := by omega
    unfold madeL hdr reparts
    simp only [if_neg e17, if_pos e, if_pos e3]
    simp
    omega
  rw [if_neg e] at hs
  cases hs

end Go.Proofs.Ytebejleeadofcaa.Tx2
