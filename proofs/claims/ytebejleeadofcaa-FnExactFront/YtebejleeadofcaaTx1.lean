/- The reader of a text is local: what it took it takes again, whatever stands behind; where it fails. -/
import Derived.Test.YtebejleeadofcaaPkXF4
namespace Go.Proofs.Ytebejleeadofcaa.Tx1
open Nd0 Pl1 Tm0 Tm1 Tx0

/-- Nothing stands there, or a blank or a closing bracket. -/
def Bd (q : List UInt8) : Prop := q = [] ∨ ∃ c q', q = c :: q' ∧ inWord c = false
theorem bd_nil : Bd [] := .inl rfl
theorem bd_blank (q : List UInt8) : Bd (32 :: q) := .inr ⟨32, q, rfl, rfl⟩
theorem bd_shut (q : List UInt8) : Bd (41 :: q) := .inr ⟨41, q, rfl, rfl⟩
theorem take_word {w q : List UInt8} (hw : ∀ c ∈ w, inWord c = true) (hq : Bd q) : (w ++ q).takeWhile inWord = w ∧ (w ++ q).dropWhile inWord = q := by
  induction w with
  | nil =>
    rcases hq with rfl | ⟨c, q', rfl, hc⟩
    · exact ⟨rfl, rfl⟩
    · simp [hc]
  | cons c w ih =>
    have h1 := hw c (by simp)
    have := ih (fun d hd => hw d (by simp [hd]))
    simp [h1, this.1, this.2]
theorem word_all (r : List UInt8) : ∀ c ∈ r.takeWhile inWord, inWord c = true := by
  induction r with
  | nil => intro c hc; cases hc
  | cons d r ih =>
    intro c hc
    rw [List.takeWhile_cons] at hc
    split at hc
    · rename_i h
      rcases List.mem_cons.1 hc with e | e
      · subst e; exact h
      · exact ih c e
    · cases hc
theorem word_past (st : Rd) : st.r = st.word ++ st.past.r := (List.takeWhile_append_dropWhile (p := inWord) (l := st.r)).symm
theorem past_p (st : Rd) : st.past.p = st.p + st.word.length := rfl
theorem past_t (st : Rd) : st.past.t = st.t := rfl
theorem word_mk {w q : List UInt8} (p : Nat) (t : List Nd) (hw : ∀ c ∈ w, inWord c = true) (hq : Bd q) : (Rd.mk p (w ++ q) t).word = w ∧ (Rd.mk p (w ++ q) t).past = ⟨p + w.length, q, t⟩ := by
  have h := take_word hw hq
  unfold Rd.word Rd.past
  simp only
  rw [h.1, h.2]
  exact ⟨rfl, rfl⟩
theorem blank_some {st s1 : Rd} (h : st.blank = some s1) : st.r = 32 :: s1.r ∧ s1.p = st.p + 1 ∧ s1.t = st.t := by
  unfold Rd.blank at h
  split at h
  · cases h
  · rename_i c r e
    split at h
    · rename_i hc
      cases h
      subst hc
      exact ⟨e, rfl, rfl⟩
    · cases h
theorem blank_mk (p : Nat) (q : List UInt8) (t : List Nd) : (Rd.mk p (32 :: q) t).blank = some ⟨p + 1, q, t⟩ := rfl
/-- What of a text the numbers behind an operator's word take. -/
theorem nums_local {op : Int} {st s1 : Rd} {n : Nd} (h : numsL op st = some (s1, n)) :
    ∃ x, st.r = x ++ s1.r ∧ s1.p = st.p + x.length ∧ s1.t = st.t ∧ (∀ y, Bd y → Bd (x ++ y)) ∧ ∀ p q t, Bd q → numsL op ⟨p, x ++ q, t⟩ = some (⟨p + x.length, q, t⟩, n) := by
  unfold numsL at h
  split at h
  · rename_i hop
    split at h
    · cases h
    · rename_i s2 h2
      split at h
      · cases h
      · rename_i k hk
        split at h
        · cases h
        · rename_i s3 h3
          split at h
          · cases h
          · rename_i w hw
            cases h
            obtain ⟨a1, a2, a3⟩ := blank_some h2
            obtain ⟨b1, b2, b3⟩ := blank_some h3
            have c1 := word_past s2
            have c2 := word_past s3
            refine ⟨32 :: (s2.word ++ 32 :: s3.word), ?_, ?_, ?_, ?_, ?_⟩
            · rw [a1, c1, b1, c2]; simp
            · rw [past_p, b2, past_p, a2]; simp; omega
            · rw [past_t, b3, past_t, a3]
            · intro y _; exact bd_blank _
            · intro p q t hq
              have e1 : (32 :: (s2.word ++ 32 :: s3.word)) ++ q = 32 :: (s2.word ++ (32 :: (s3.word ++ q))) := by simp
              unfold numsL
              rw [if_pos hop, e1, blank_mk]
              simp only
              have m1 := word_mk (p + 1) t (word_all s2.r) (bd_blank (s3.word ++ q))
              have m2 := word_mk (p + 1 + s2.word.length + 1) t (word_all s3.r) hq
              have n1 : (Rd.mk (p + 1) (s2.word ++ 32 :: (s3.word ++ q)) t).word = s2.word := m1.1
              have n2 : (Rd.mk (p + 1) (s2.word ++ 32 :: (s3.word ++ q)) t).past = ⟨p + 1 + s2.word.length, 32 :: (s3.word ++ q), t⟩ := m1.2
              rw [n1, n2, hk, blank_mk]
              simp only
              have n3 : (Rd.mk (p + 1 + s2.word.length + 1) (s3.word ++ q) t).word = s3.word := m2.1
              have n4 : (Rd.mk (p + 1 + s2.word.length + 1) (s3.word ++ q) t).past = ⟨p + 1 + s2.word.length + 1 + s3.word.length, q, t⟩ := m2.2
              rw [n3, n4, hw]
              simp only
              congr 3
              simp; omega
  · rename_i hop
    split at h
    · rename_i hq2
      split at h
      · cases h
      · rename_i s2 h2
        split at h
        · cases h
        · rename_i k b hk
          cases h
          obtain ⟨a1, a2, a3⟩ := blank_some h2
          have c1 := word_past s2
          refine ⟨32 :: s2.word, ?_, ?_, ?_, ?_, ?_⟩
          · rw [a1, c1]; rfl
          · rw [past_p, a2]; simp; omega
          · rw [past_t, a3]
          · intro y _; exact bd_blank _
          · intro p q t hq
            have e1 : (32 :: s2.word) ++ q = 32 :: (s2.word ++ q) := rfl
            have m1 := word_mk (p + 1) t (word_all s2.r) hq
            have n1 : (Rd.mk (p + 1) (s2.word ++ q) t).word = s2.word := m1.1
            have n2 : (Rd.mk (p + 1) (s2.word ++ q) t).past = ⟨p + 1 + s2.word.length, q, t⟩ := m1.2
            unfold numsL
            rw [if_neg hop, if_pos hq2, e1, blank_mk]
            simp only
            rw [n1, n2, hk]
            simp only
            congr 3
            simp; omega
    · rename_i hq2
      cases h
      refine ⟨[], rfl, rfl, rfl, fun y hy => hy, fun p q t _ => ?_⟩
      unfold numsL
      rw [if_neg hop, if_neg hq2]
      rfl
theorem opens_app {x : List UInt8} (q : List UInt8) (h : x ≠ []) : opens (x ++ q) = opens x := by
  cases x with
  | nil => exact absurd rfl h
  | cons c x => rfl
/-- What a reader did: it took x of the text, and takes it again whatever stands behind. -/
def Local (f : Nat) : Prop := ∀ (st st' : Rd) (i : Nat), rdL f st = .ok (st', i) →
  ∃ x, st.r = x ++ st'.r ∧ st'.p = st.p + x.length ∧ x ≠ [] ∧ ∀ g q, x.length < g → (Bd q ∨ opens x = true) → rdL g ⟨st.p, x ++ q, st.t⟩ = .ok (⟨st'.p, q, st'.t⟩, i)
theorem parts_local {f : Nat} (hf : Local f) (p0 : Nat) : ∀ (c : Nat) (st s2 : Rd) (is : List Nat), partsL (rdL f) p0 c st = .ok (s2, is) →
    ∃ x, st.r = x ++ s2.r ∧ s2.p = st.p + x.length ∧ (∀ y, Bd y → Bd (x ++ y)) ∧ ∀ g q, x.length < g → Bd q → partsL (rdL g) p0 c ⟨st.p, x ++ q, st.t⟩ = .ok (⟨s2.p, q, s2.t⟩, is) := by
  intro c
  induction c with
  | zero =>
    intro st s2 is h
    simp only [partsL] at h
    cases h
    exact ⟨[], rfl, rfl, fun y hy => hy, fun g q _ _ => rfl⟩
  | succ c ih =>
    intro st s2 is h
    simp only [partsL] at h
    split at h
    · cases h
    · rename_i s1 hb
      split at h
      · cases h
      · rename_i s3 i hr
        split at h
        · cases h
        · rename_i s4 is' hp
          cases h
          obtain ⟨a1, a2, a3⟩ := blank_some hb
          obtain ⟨x1, b1, b2, b3, b4⟩ := hf s1 s3 i hr
          obtain ⟨x2, c1, c2, c3, c4⟩ := ih s3 s2 is' hp
          refine ⟨32 :: (x1 ++ x2), ?_, ?_, fun y _ => bd_blank _, ?_⟩
          · rw [a1, b1, c1]; simp
          · rw [c2, b2, a2]; simp; omega
          · intro g q hg hq
            simp only [List.length_cons, List.length_append] at hg
            have e1 : (32 :: (x1 ++ x2)) ++ q = 32 :: (x1 ++ (x2 ++ q)) := by simp
            have k1 := b4 g (x2 ++ q) (by omega) (.inl (c3 q hq))
            have k2 := c4 g q (by omega) hq
            rw [a2, a3] at k1
            simp only [partsL]
            rw [e1, blank_mk]
            simp only
            rw [k1]
            simp only
            rw [k2]
theorem inner_local {f : Nat} (hf : Local f) (st st' : Rd) (p0 i : Nat) (h : innerL (rdL f) p0 st = .ok (st', i)) :
    ∃ x, st.r = x ++ st'.r ∧ st'.p = st.p + x.length ∧ ∀ g q, x.length < g → innerL (rdL g) p0 ⟨st.p, x ++ q, st.t⟩ = .ok (⟨st'.p, q, st'.t⟩, i) := by
  unfold innerL at h
  split at h
  · cases h
  · rename_i op count ho
    split at h
    · cases h
    · rename_i s1 n hn
      split at h
      · cases h
      · rename_i s2 is hp
        split at h
        · cases h
        · rename_i c r hr
          split at h
          · rename_i hc
            subst hc
            split at h
            · cases h
            · rename_i t j hput
              cases h
              have w1 := word_past st
              obtain ⟨x1, a1, a2, a3, a4, a5⟩ := nums_local hn
              obtain ⟨x2, b1, b2, b3, b4⟩ := parts_local hf p0 count s1 s2 is hp
              refine ⟨st.word ++ (x1 ++ (x2 ++ [41])), ?_, ?_, ?_⟩
              · rw [w1, a1, b1, hr]; simp
              · show s2.p + 1 = _
                rw [b2, a2, past_p]; simp; omega
              · intro g q hg
                simp only [List.length_cons, List.length_append, List.length_nil] at hg
                have e1 : (st.word ++ (x1 ++ (x2 ++ [41]))) ++ q = st.word ++ (x1 ++ (x2 ++ (41 :: q))) := by simp
                have hb2 : Bd (x2 ++ (41 :: q)) := b3 _ (bd_shut q)
                have hb1 : Bd (x1 ++ (x2 ++ (41 :: q))) := a4 _ hb2
                have m1 := word_mk st.p st.t (word_all st.r) hb1
                have n1 : (Rd.mk st.p (st.word ++ (x1 ++ (x2 ++ (41 :: q)))) st.t).word = st.word := m1.1
                have n2 : (Rd.mk st.p (st.word ++ (x1 ++ (x2 ++ (41 :: q)))) st.t).past = ⟨st.p + st.word.length, x1 ++ (x2 ++ (41 :: q)), st.t⟩ := m1.2
                have k1 := a5 (st.p + st.word.length) (x2 ++ (41 :: q)) st.t hb2
                have k2 := b4 g (41 :: q) (by omega) (bd_shut q)
                rw [a2, past_p, a3, past_t] at k2
                unfold innerL
                rw [e1, n1, ho]
                simp only
                rw [n2, k1]
                simp only
                rw [k2]
                simp only [if_true]
                rw [hput]
          · cases h
theorem leaf_local (st st' : Rd) (i : Nat) (h : leafL st = .ok (st', i)) :
    st.r = st.word ++ st'.r ∧ st'.p = st.p + st.word.length ∧ st.word ≠ [] ∧ ∀ q, Bd q → leafL ⟨st.p, st.word ++ q, st.t⟩ = .ok (⟨st'.p, q, st'.t⟩, i) := by
  have w1 := word_past st
  have key : ∀ q, Bd q → (Rd.mk st.p (st.word ++ q) st.t).word = st.word ∧ (Rd.mk st.p (st.word ++ q) st.t).past = ⟨st.p + st.word.length, q, st.t⟩ := fun q hq => word_mk st.p st.t (word_all st.r) hq
  have hne : st.word ≠ [] := by
    intro e
    unfold leafL at h
    rw [e] at h
    simp [twoL] at h
  unfold leafL at h
  split at h
  · rename_i a b h2
    split at h
    · cases h
    · rename_i t j hput
      cases h
      refine ⟨w1, rfl, hne, fun q hq => ?_⟩
      obtain ⟨n1, n2⟩ := key q hq
      unfold leafL
      rw [n1, n2, h2]
      simp only
      rw [hput]
      rfl
  · rename_i h1
    split at h
    · rename_i a b h2
      split at h
      · cases h
      · rename_i t j hput
        cases h
        refine ⟨w1, rfl, hne, fun q hq => ?_⟩
        obtain ⟨n1, n2⟩ := key q hq
        unfold leafL
        rw [n1, n2, h1, h2]
        simp only
        rw [hput]
        rfl
    · cases h
theorem opens_cons {r : List UInt8} (h : opens r = true) : r = 40 :: r.tail := by
  cases r with
  | nil => cases h
  | cons c r => have : c = 40 := by simpa [opens] using h
                subst this; rfl
theorem word_opens (st : Rd) (h : opens st.r = false) (hw : st.word ≠ []) : opens st.word = false := by
  have w1 := word_past st
  rw [w1, opens_app _ hw] at h
  exact h
theorem rd_local : ∀ f, Local f := by
  intro f
  induction f with
  | zero => intro st st' i h; cases h
  | succ f ih =>
    intro st st' i h
    simp only [rdL] at h
    cases ho : opens st.r
    · rw [ho] at h
      simp only [Bool.false_eq_true, if_false] at h
      obtain ⟨a1, a2, a3, a4⟩ := leaf_local st st' i h
      refine ⟨st.word, a1, a2, a3, fun g q hg hq => ?_⟩
      have hof := word_opens st ho a3
      rw [hof] at hq
      have hq' : Bd q := by rcases hq with h | h
                            · exact h
                            · cases h
      cases g with
      | zero => omega
      | succ g =>
        simp only [rdL]
        rw [opens_app q a3, hof]
        simp only [Bool.false_eq_true, if_false]
        exact a4 q hq'
    · rw [ho, if_pos rfl] at h
      have hc := opens_cons ho
      obtain ⟨x, a1, a2, a3⟩ := inner_local ih _ _ _ _ h
      refine ⟨40 :: x, ?_, ?_, by simp, ?_⟩
      · rw [hc]; show 40 :: st.r.tail = 40 :: (x ++ st'.r); rw [← a1]
      · rw [a2]; simp; omega
      · intro g q hg _
        cases g with
        | zero => omega
        | succ g =>
          simp only [List.length_cons] at hg
          have k := a3 g q (by omega)
          simp only [rdL]
          have : opens ((40 :: x) ++ q) = true := rfl
          rw [if_pos this]
          exact k
/-- Nothing is lost: what is behind and what is left make up the text. -/
theorem rd_sum {f : Nat} {st st' : Rd} {i : Nat} (h : rdL f st = .ok (st', i)) : st'.p + st'.r.length = st.p + st.r.length := by
  obtain ⟨x, a1, a2, _, _⟩ := rd_local f st st' i h
  rw [a1, a2, List.length_append]; omega
theorem put_err {t : List Nd} {n : Nd} {p : Nat} {e : Int × Nat} (h : putL t n p = .error e) : (e.1 = 3 ∨ e.1 = 4) ∧ e.2 = p := by
  unfold putL at h
  split at h
  · cases h
  · split at h
    · split at h
      · cases h; exact ⟨.inr rfl, rfl⟩
      · cases h
    · cases h; exact ⟨.inl rfl, rfl⟩
theorem put_ok {t t' : List Nd} {n : Nd} {p i : Nat} (h : putL t n p = .ok (t', i)) : i < t'.length ∧ ∃ m, t' = t ++ m := by
  unfold putL at h
  split at h
  · rename_i j hj
    cases h
    have := List.mem_of_find?_eq_some hj
    exact ⟨List.mem_range.1 this, [], by simp⟩
  · split at h
    · split at h
      · cases h
      · cases h; exact ⟨by simp, _, rfl⟩
    · cases h
/-- Where and how a reader fails. -/
def Fails (f : Nat) : Prop := ∀ (st : Rd) (e : Int × Nat), rdL f st = .error e → (e.1 = 2 ∨ e.1 = 3 ∨ e.1 = 4) ∧ e.2 ≤ st.p + st.r.length
theorem parts_fail {f : Nat} (hf : Fails f) (p0 : Nat) : ∀ (c : Nat) (st : Rd) (e : Int × Nat), partsL (rdL f) p0 c st = .error e → p0 ≤ st.p → (e.1 = 2 ∨ e.1 = 3 ∨ e.1 = 4) ∧ e.2 ≤ st.p + st.r.length := by
  intro c
  induction c with
  | zero => intro st e h; simp only [partsL] at h; cases h
  | succ c ih =>
    intro st e h hp
    simp only [partsL] at h
    split at h
    · cases h; exact ⟨.inl rfl, by simp only; omega⟩
    · rename_i s1 hb
      obtain ⟨a1, a2, a3⟩ := blank_some hb
      have hs : s1.p + s1.r.length = st.p + st.r.length := by rw [a1, a2]; simp; omega
      split at h
      · rename_i e' hr
        cases h
        have := hf s1 e hr
        rw [hs] at this; exact this
      · rename_i s3 i hr
        have h3 := rd_sum hr
        split at h
        · rename_i e' hp'
          cases h
          have hle : p0 ≤ s3.p := by
            obtain ⟨x, _, b2, _, _⟩ := rd_local f _ _ _ hr
            omega
          have := ih s3 e hp' hle
          rw [h3, hs] at this; exact this
        · cases h
theorem rd_fail : ∀ f, Fails f := by
  intro f
  induction f with
  | zero => intro st e h; simp only [rdL] at h; cases h; exact ⟨.inl rfl, Nat.zero_le _⟩
  | succ f ih =>
    intro st e h
    simp only [rdL] at h
    split at h
    · rename_i ho
      have hc := opens_cons ho
      have hs : st.p + 1 + st.r.tail.length = st.p + st.r.length := by
        have : st.r.length = st.r.tail.length + 1 := by rw [hc]; rfl
        omega
      unfold innerL at h
      split at h
      · cases h; exact ⟨.inl rfl, by simp only; omega⟩
      · split at h
        · cases h; exact ⟨.inl rfl, by simp only; omega⟩
        · rename_i s1 n hn
          obtain ⟨x1, a1, a2, a3, a4, a5⟩ := nums_local hn
          have w1 := word_past ⟨st.p + 1, st.r.tail, st.t⟩
          have hs1 : s1.p + s1.r.length = st.p + st.r.length := by
            have e1 : st.r.tail.length = (Rd.mk (st.p + 1) st.r.tail st.t).word.length + (x1.length + s1.r.length) := by
              have := congrArg List.length w1
              rw [a1, List.length_append, List.length_append] at this
              exact this
            have e2 : s1.p = st.p + 1 + (Rd.mk (st.p + 1) st.r.tail st.t).word.length + x1.length := a2
            omega
          split at h
          · rename_i e' hp
            cases h
            have hle : st.p ≤ s1.p := by
              have e2 : s1.p = st.p + 1 + (Rd.mk (st.p + 1) st.r.tail st.t).word.length + x1.length := a2
              omega
            have := parts_fail ih st.p _ s1 e hp hle
            rw [hs1] at this; exact this
          · split at h
            · cases h; exact ⟨.inl rfl, by simp only; omega⟩
            · split at h
              · split at h
                · rename_i e' hput
                  cases h
                  have := put_err hput
                  exact ⟨.inr this.1, by rw [this.2]; omega⟩
                · cases h
              · cases h; exact ⟨.inl rfl, by simp only; omega⟩
    · unfold leafL at h
      split at h
      · split at h
        · rename_i e' hput
          cases h
          have := put_err hput
          exact ⟨.inr this.1, by rw [this.2]; omega⟩
        · cases h
      · split at h
        · split at h
          · rename_i e' hput
            cases h
            have := put_err hput
            exact ⟨.inr this.1, by rw [this.2]; omega⟩
          · cases h
        · cases h; exact ⟨.inl rfl, by simp only; omega⟩
theorem rd_place {f : Nat} {st st' : Rd} {i : Nat} (h : rdL f st = .ok (st', i)) : i < st'.t.length := by
  cases f with
  | zero => cases h
  | succ f =>
    simp only [rdL] at h
    split at h
    · unfold innerL at h
      split at h
      · cases h
      · split at h
        · cases h
        · split at h
          · cases h
          · split at h
            · cases h
            · split at h
              · split at h
                · cases h
                · rename_i hput
                  cases h; exact (put_ok hput).1
              · cases h
    · unfold leafL at h
      split at h
      · split at h
        · cases h
        · rename_i hput
          cases h; exact (put_ok hput).1
      · split at h
        · split at h
          · cases h
          · rename_i hput
            cases h; exact (put_ok hput).1
        · cases h

/-- A text that is read is read again, and with a closing bracket behind it that is what is left over. -/
theorem read_more {s : List UInt8} {u : List Nd} {p : Int} (h : readL s = (u, 0, p)) (hl : s.length < 4000) (c : UInt8) (hc : inWord c = false) : readL (s ++ [c]) = ([], 5, (s.length : Int)) := by
  unfold readL at h
  rw [if_neg (by omega)] at h
  split at h
  · rename_i c' p' hr
    have := (rd_fail _ _ _ hr).1
    simp only [Prod.mk.injEq] at h
    obtain ⟨_, h1, _⟩ := h
    simp only at this
    omega
  · rename_i st i hr
    split at h
    · rename_i h0
      have e0 : st.r = [] := List.eq_nil_of_length_eq_zero h0
      obtain ⟨x, a1, a2, a3, a4⟩ := rd_local _ _ _ _ hr
      simp only [e0, List.append_nil] at a1
      subst a1
      have k := a4 (s.length + 2) [c] (by omega) (.inl (.inr ⟨c, [], rfl, hc⟩))
      unfold readL
      rw [if_neg (by simp; omega), List.length_append]
      simp only [List.length_cons, List.length_nil]
      rw [k]
      simp only [List.length_cons, List.length_nil]
      rw [if_neg (by omega), a2]
      simp
    · simp only [Prod.mk.injEq] at h
      omega
/-- What stands ahead of a rest is read. -/
theorem read_rest {s : List UInt8} {u : List Nd} {p : Int} (h : readL s = (u, 5, p)) : ∃ v, readL (s.take p.toNat) = (v, 0, 0) ∧ 0 < v.length ∧ 0 ≤ p ∧ p.toNat ≤ s.length := by
  unfold readL at h
  split at h
  · simp only [Prod.mk.injEq] at h; omega
  · rename_i hl
    split at h
    · rename_i c' p' hr
      have := (rd_fail _ _ _ hr).1
      simp only [Prod.mk.injEq] at h
      obtain ⟨_, h1, _⟩ := h
      simp only at this
      omega
    · rename_i st i hr
      split at h
      · simp only [Prod.mk.injEq] at h; omega
      · simp only [Prod.mk.injEq] at h
        obtain ⟨_, _, hp⟩ := h
        obtain ⟨x, a1, a2, a3, a4⟩ := rd_local _ _ _ _ hr
        simp only at a1 a2
        have hpx : p.toNat = x.length := by omega
        have ht : s.take p.toNat = x := by rw [hpx, a1]; simp
        have hxl : x.length ≤ s.length := by rw [a1]; simp
        have k := a4 (x.length + 1) [] (by omega) (.inl bd_nil)
        rw [List.append_nil] at k
        refine ⟨st.t.take (i + 1), ?_, ?_, by omega, by omega⟩
        · rw [ht]
          unfold readL
          rw [if_neg (by omega)]
          simp only at k
          rw [k]
          rfl
        · have := rd_place hr
          rw [List.length_take]; omega
/-- The byte that is told lies in the text. -/
theorem read_byte (s : List UInt8) : 0 ≤ (readL s).2.2 ∧ (readL s).2.2 ≤ (s.length : Int) ∧ 0 ≤ (readL s).2.1 ∧ (readL s).2.1 ≤ 5 := by
  unfold readL
  split
  · simp
  · split
    · rename_i c' p' hr
      have := rd_fail _ _ _ hr
      simp only at this ⊢
      omega
    · rename_i st i hr
      have := rd_sum hr
      simp only at this
      split
      · simp
      · simp only; omega

end Go.Proofs.Ytebejleeadofcaa.Tx1
