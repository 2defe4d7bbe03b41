/- Small texts of mine, one behind the other. -/
import Derived.Test.YtnkkigoeffghdaaTx2
import Derived.Test.YtnkkigoeffghdaaPk156
import Derived.Test.YtnkkigoeffghdaaPk150
/- What is written of a term is read: as its canonical form, of which the same is written. -/
namespace Go.Proofs.Ytnkkigoeffghdaa.Tx3
open Nd0 Pl1 Tm0 Tm1 Tm3 Tm8 Tx0 Tx1 Tx2

/-- A list of right nodes, no two alike. -/
structure Neat (t : List Nd) : Prop where
  ok : ∀ k, k < t.length → nodeOk t k = true
  one : ∀ j k, j < t.length → k < t.length → nth t j = nth t k → j = k
theorem Neat.down {t : List Nd} (h : Neat t) : Down t := by
  intro i hi p hp
  obtain ⟨j, hj, rfl⟩ := List.getElem_of_mem hp
  exact parts_ok (h.ok i hi) j hj
theorem place_some {t : List Nd} {n : Nd} {j : Nat} (h : placeOf t n = some j) : j < t.length ∧ nth t j = n := by
  have h1 := List.mem_of_find?_eq_some h
  have h2 := List.find?_some h
  simp only [decide_eq_true_eq] at h2
  exact ⟨List.mem_range.1 h1, Nd.ext' h2⟩
theorem place_none {t : List Nd} {n : Nd} (h : placeOf t n = none) {j : Nat} (hj : j < t.length) : nth t j ≠ n := by
  intro e
  have := List.find?_eq_none.1 h j (List.mem_range.2 hj)
  simp [e] at this
theorem place_at {t : List Nd} (hG : Neat t) {j : Nat} (hj : j < t.length) : placeOf t (nth t j) = some j := by
  cases h : placeOf t (nth t j) with
  | none => exact absurd rfl (place_none h hj)
  | some i =>
    obtain ⟨h1, h2⟩ := place_some h
    rw [hG.one i j h1 hj h2]
theorem bd_tails (ts : List (List UInt8)) (ps : List Int) {y : List UInt8} (h : Bd y) : Bd (tails ts ps ++ y) := by
  cases ps with
  | nil => exact h
  | cons p ps => exact bd_blank _
theorem widths_le {l : List Nd} {i : Nat} (hok : ∀ k, k < i → nodeOk l k = true) (h : nodeOk l i = true) : ∀ x ∈ (parts (nth l i)).map (width l), x ≤ 8 := by
  intro x hx
  obtain ⟨p, hp, rfl⟩ := List.mem_map.1 hx
  obtain ⟨j, hj, rfl⟩ := List.getElem_of_mem hp
  have := parts_ok h j hj
  exact (node_width (hok (parts (nth l i))[j].toNat (by omega))).2
/-- The text of a right node is read, where those of its parts are. -/
theorem node_read {l : List Nd} (hN : ∀ k, k < l.length → nodeOk l k = true) (hD : Down l) {i : Nat} (hi : i < l.length) (hX : X l i ≠ []) {t t2 : List Nd} {is : List Nat} {g : Nat}
    (hl : is.length = (parts (nth l i)).length) (hw : is.map (fun (i : Nat) => width t2 (i : Int)) = (parts (nth l i)).map (width l))
    (hp : ∀ p0 p q, Bd q → partsL (rdL g) p0 (parts (nth l i)).length ⟨p, tails (showTo l l.length) (parts (nth l i)) ++ q, t⟩ = .ok (⟨p + (tails (showTo l l.length) (parts (nth l i))).length, q, t2⟩, is))
    (p : Nat) (q : List UInt8) (hq : Bd q ∨ opens (X l i) = true) :
    rdL (g + 1) ⟨p, X l i ++ q, t⟩ = match putL t2 (reparts (nth l i) is) p with
      | .error e => .error e
      | .ok (t3, j) => .ok (⟨p + (X l i).length, q, t3⟩, j) := by
  have hok := hN i hi
  have hXa := X_at hD hi
  have hsh : shapeOk (nth l i) ((parts (nth l i)).map (width l)) = true := by
    simp only [nodeOk, Bool.and_eq_true] at hok; exact hok.2
  have hwd := node_width hok
  have hle := widths_le (fun k hk => hN k (by omega)) hok
  generalize nth l i = n at hl hw hp hXa hsh hwd hle ⊢
  by_cases h0 : n.op = 0
  · have hpn : parts n = [] := parts_none (by omega) (by omega) (by omega)
    rw [hpn] at hl hp
    have his : is = [] := List.eq_nil_of_length_eq_zero hl
    subst his
    have e2 : t = t2 := by
      have := hp 0 0 [] bd_nil
      simp only [List.length_nil, partsL] at this
      injection this with this
      injection this with this _
      injection this
    subst e2
    have hs2 : (wok n.w n.k && decide (n.a = 0 ∧ n.b = 0 ∧ n.c = 0)) = true := by unfold shapeOk at hsh; rw [if_pos h0] at hsh; exact hsh
    simp only [Bool.and_eq_true, decide_eq_true_eq] at hs2
    obtain ⟨hwk, ha, hb, hc⟩ := hs2
    have hk := wok_lt hwk
    have hx : X l i = 35 :: (dec n.w.toNat ++ (58 :: dec n.k.toNat)) := by rw [hXa]; unfold showN; rw [if_pos h0]; simp
    have hne : reparts n [] = ⟨0, ((n.w.toNat : Nat) : Int), ((n.k.toNat : Nat) : Int), 0, 0, 0⟩ := by
      unfold reparts; simp only [List.length_nil]
      apply Nd.ext'; simp only
      refine ⟨h0, by omega, by omega, ?_, ?_, ?_⟩
      · rw [if_neg (by omega)]; exact ha
      · rw [if_neg (by omega)]; exact hb
      · rw [if_neg (by omega)]; exact hc
    rw [hx] at hq ⊢
    have hbd : Bd q := by rcases hq with h | h
                          · exact h
                          · cases h
    have m1 := word_mk p t (two_word 35 rfl n.w.toNat n.k.toNat) hbd
    have ho : opens ((35 :: (dec n.w.toNat ++ (58 :: dec n.k.toNat))) ++ q) = false := rfl
    simp only [rdL]
    rw [ho]
    simp only [Bool.false_eq_true, if_false]
    unfold leafL
    rw [m1.1, m1.2, two_dec 35 (by omega) (by omega), hne]
    all_goals (simp only; rcases putL t ⟨0, ((n.w.toNat : Nat) : Int), ((n.k.toNat : Nat) : Int), 0, 0, 0⟩ p with e | ⟨t3, j⟩ <;> rfl)
  by_cases h1 : n.op = 1
  · have hpn : parts n = [] := parts_none (by omega) (by omega) (by omega)
    rw [hpn] at hl hp
    have his : is = [] := List.eq_nil_of_length_eq_zero hl
    subst his
    have e2 : t = t2 := by
      have := hp 0 0 [] bd_nil
      simp only [List.length_nil, partsL] at this
      injection this with this
      injection this with this _
      injection this
    subst e2
    have hs2 : decide (0 ≤ n.k ∧ n.k ≤ 7 ∧ n.a = 0 ∧ n.b = 0 ∧ n.c = 0) = true := by unfold shapeOk at hsh; rw [if_neg h0, if_pos h1] at hsh; exact hsh
    simp only [decide_eq_true_eq] at hs2
    obtain ⟨hk1, hk2, ha, hb, hc⟩ := hs2
    have hx : X l i = 118 :: (dec n.k.toNat ++ (58 :: dec n.w.toNat)) := by rw [hXa]; unfold showN; rw [if_neg h0, if_pos h1]; simp
    have hne : reparts n [] = ⟨1, ((n.w.toNat : Nat) : Int), ((n.k.toNat : Nat) : Int), 0, 0, 0⟩ := by
      unfold reparts; simp only [List.length_nil]
      apply Nd.ext'; simp only
      refine ⟨h1, by omega, by omega, ?_, ?_, ?_⟩
      · rw [if_neg (by omega)]; exact ha
      · rw [if_neg (by omega)]; exact hb
      · rw [if_neg (by omega)]; exact hc
    rw [hx] at hq ⊢
    have hbd : Bd q := by rcases hq with h | h
                          · exact h
                          · cases h
    have m1 := word_mk p t (two_word 118 rfl n.k.toNat n.w.toNat) hbd
    have ho : opens ((118 :: (dec n.k.toNat ++ (58 :: dec n.w.toNat))) ++ q) = false := rfl
    have hno : twoL 35 (118 :: (dec n.k.toNat ++ (58 :: dec n.w.toNat))) = none := rfl
    simp only [rdL]
    rw [ho]
    simp only [Bool.false_eq_true, if_false]
    unfold leafL
    rw [m1.1, m1.2, hno]
    simp only
    rw [two_dec 118 (by omega) (by omega), hne]
    all_goals (simp only; rcases putL t ⟨1, ((n.w.toNat : Nat) : Int), ((n.k.toNat : Nat) : Int), 0, 0, 0⟩ p with e | ⟨t3, j⟩ <;> rfl)
  · rw [hXa] at hX
    obtain ⟨b1, b2, b3⟩ := showN_inner h0 h1 hX
    rw [hXa, b1]
    obtain ⟨w, hd, c1, c2, c3, c4, c5⟩ := head_read hsh hwd hle h0 h1
    have hm : madeL (hdr n) t2 is = reparts n is := made_eq hsh hl hw h0 h1
    have e1 : (40 :: (headL n ++ (tails (showTo l l.length) (parts n) ++ [41]))) ++ q = 40 :: (w ++ (hd ++ (tails (showTo l l.length) (parts n) ++ (41 :: q)))) := by rw [c1]; simp
    rw [e1]
    have ho : opens (40 :: (w ++ (hd ++ (tails (showTo l l.length) (parts n) ++ (41 :: q))))) = true := rfl
    simp only [rdL]
    rw [ho, if_pos rfl]
    have hb2 : Bd (tails (showTo l l.length) (parts n) ++ (41 :: q)) := bd_tails _ _ (bd_shut q)
    have m1 := word_mk (p + 1) t c2 (c4 _ hb2)
    have k1 := c5 (p + 1 + w.length) (tails (showTo l l.length) (parts n) ++ (41 :: q)) t hb2
    have k2 := hp p (p + 1 + w.length + hd.length) (41 :: q) (bd_shut q)
    unfold innerL
    simp only [List.tail_cons]
    rw [m1.1, m1.2, c3]
    simp only
    rw [k1]
    simp only
    rw [k2]
    simp only [if_true]
    rw [hm]
    have e3 : p + 1 + w.length + hd.length + (tails (showTo l l.length) (parts n)).length + 1 = p + (40 :: (headL n ++ (tails (showTo l l.length) (parts n) ++ [41]))).length := by
      rw [c1]; simp; omega
    rw [e3]
    all_goals (rcases putL t2 (reparts n is) p with e | ⟨t3, j⟩ <;> rfl)
/-- Parts one behind the other, each read without a new node. -/
theorem parts_seq {g : Nat} {t : List Nd} (ts : List (List UInt8)) (p0 : Nat) : ∀ (ps : List Int) (is : List Nat), is.length = ps.length →
    (∀ x ∈ ps.zip is, ∀ p q, Bd q → rdL g ⟨p, txt ts x.1 ++ q, t⟩ = .ok (⟨p + (txt ts x.1).length, q, t⟩, x.2)) →
    ∀ p q, Bd q → partsL (rdL g) p0 ps.length ⟨p, tails ts ps ++ q, t⟩ = .ok (⟨p + (tails ts ps).length, q, t⟩, is) := by
  intro ps
  induction ps with
  | nil =>
    intro is hl _ p q _
    have his : is = [] := List.eq_nil_of_length_eq_zero hl
    subst his
    rfl
  | cons a ps ih =>
    intro is hl h p q hq
    match is, hl with
    | i :: is, hl =>
      have h1 := h (a, i) (by simp) (p + 1) (tails ts ps ++ q) (bd_tails ts ps hq)
      have h2 := ih is (by simpa using hl) (fun x hx => h x (by simp [hx])) (p + 1 + (txt ts a).length) q hq
      have e1 : tails ts (a :: ps) ++ q = 32 :: (txt ts a ++ (tails ts ps ++ q)) := by simp [tails]
      rw [e1, List.length_cons]
      simp only [partsL]
      rw [blank_mk]
      simp only
      rw [h1]
      simp only
      rw [h2]
      simp only
      congr 3
      simp [tails]; omega
theorem X_len {l : List Nd} (hN : ∀ k, k < l.length → nodeOk l k = true) (hD : Down l) {i : Nat} (hi : i < l.length) : (X l i).length ≤ 4000 := by
  have hok := hN i hi
  have hXa := X_at hD hi
  have hsh : shapeOk (nth l i) ((parts (nth l i)).map (width l)) = true := by
    simp only [nodeOk, Bool.and_eq_true] at hok; exact hok.2
  have hwd := node_width hok
  generalize nth l i = n at hXa hsh hwd
  by_cases h0 : n.op = 0
  · have hs2 : (wok n.w n.k && decide (n.a = 0 ∧ n.b = 0 ∧ n.c = 0)) = true := by unfold shapeOk at hsh; rw [if_pos h0] at hsh; exact hsh
    simp only [Bool.and_eq_true] at hs2
    have hk := wok_lt hs2.1
    have d1 := dec_len (n := n.w.toNat) (by omega)
    have d2 := dec_len (n := n.k.toNat) (by omega)
    rw [hXa]; unfold showN; rw [if_pos h0]; simp; omega
  by_cases h1 : n.op = 1
  · have hs2 : decide (0 ≤ n.k ∧ n.k ≤ 7 ∧ n.a = 0 ∧ n.b = 0 ∧ n.c = 0) = true := by unfold shapeOk at hsh; rw [if_neg h0, if_pos h1] at hsh; exact hsh
    simp only [decide_eq_true_eq] at hs2
    have d1 := dec_len (n := n.w.toNat) (by omega)
    have d2 := dec_len (n := n.k.toNat) (by omega)
    rw [hXa]; unfold showN; rw [if_neg h0, if_pos h1]; simp; omega
  · by_cases hX : showN n (showTo l l.length) = []
    · rw [hXa, hX]; simp
    · obtain ⟨b1, b2, b3⟩ := showN_inner h0 h1 hX
      rw [hXa, b1]
      simp at b3 ⊢; omega
/-- The text of a part is shorter, and there. -/
theorem part_text {l : List Nd} (hD : Down l) {i : Nat} (hi : i < l.length) (hX : X l i ≠ []) {p : Int} (hp : p ∈ parts (nth l i)) : txt (showTo l l.length) p = X l p.toNat ∧ X l p.toNat ≠ [] ∧ (X l p.toNat).length + 1 < (X l i).length ∧ opens (X l i) = true := by
  have hd := hD i hi p hp
  have hXa := X_at hD hi
  have hpe : txt (showTo l l.length) p = X l p.toNat := by
    unfold X; congr 1; omega
  have h0 : (nth l i).op ≠ 0 := by
    intro h; rw [parts_none (by omega) (by omega) (by omega)] at hp; cases hp
  have h1 : (nth l i).op ≠ 1 := by
    intro h; rw [parts_none (by omega) (by omega) (by omega)] at hp; cases hp
  rw [hXa] at hX
  obtain ⟨b1, b2, b3⟩ := showN_inner h0 h1 hX
  have b4 := b2 p hp
  rw [hpe] at b4
  have hmem : ∀ (ps : List Int), p ∈ ps → (X l p.toNat).length + 1 ≤ (tails (showTo l l.length) ps).length := by
    intro ps
    induction ps with
    | nil => intro h; cases h
    | cons a ps ih =>
      intro h
      rcases List.mem_cons.1 h with e | e
      · subst e; simp only [tails, List.flatMap_cons, List.length_append, List.length_cons]; rw [hpe]; omega
      · have := ih e
        simp only [tails, List.flatMap_cons, List.length_append, List.length_cons] at this ⊢; omega
  have := hmem _ hp
  refine ⟨hpe, b4, ?_, ?_⟩
  · rw [hXa, b1]; simp; omega
  · rw [hXa, b1]; rfl
theorem reparts_self {l : List Nd} (hD : Down l) {i : Nat} (hi : i < l.length) : reparts (nth l i) ((parts (nth l i)).map Int.toNat) = nth l i := by
  have hd := hD i hi
  unfold reparts
  rcases parts_cases (nth l i) with e | e | e | e
  · rw [e]; rfl
  · rw [e] at hd ⊢
    have h1 := hd (nth l i).a (by simp)
    apply Nd.ext'
    simp; omega
  · rw [e] at hd ⊢
    have h1 := hd (nth l i).a (by simp)
    have h2 := hd (nth l i).b (by simp)
    apply Nd.ext'
    simp; omega
  · rw [e] at hd ⊢
    have h1 := hd (nth l i).a (by simp)
    have h2 := hd (nth l i).b (by simp)
    have h3 := hd (nth l i).c (by simp)
    apply Nd.ext'
    simp; omega
theorem mem_zip_map {α β : Type} (f : α → β) : ∀ (ps : List α) (x : α × β), x ∈ ps.zip (ps.map f) → x.1 ∈ ps ∧ x.2 = f x.1 := by
  intro ps
  induction ps with
  | nil => intro x hx; cases hx
  | cons a ps ih =>
    intro x hx
    simp only [List.map_cons, List.zip_cons_cons, List.mem_cons] at hx
    rcases hx with e | e
    · subst e; exact ⟨by simp, rfl⟩
    · have := ih x e; exact ⟨by simp [this.1], this.2⟩
/-- The text of a node of a good list is read as that node, and nothing is put in. -/
theorem reread {t : List Nd} (hG : Neat t) : ∀ j, j < t.length → X t j ≠ [] → ∀ g p q, (X t j).length < g → (Bd q ∨ opens (X t j) = true) → rdL g ⟨p, X t j ++ q, t⟩ = .ok (⟨p + (X t j).length, q, t⟩, j) := by
  intro j
  induction j using Nat.strongRecOn with
  | ind j ih =>
    intro hj hX g p q hg hq
    have hD := hG.down
    cases g with
    | zero => omega
    | succ g =>
      have hp : ∀ p0 p q, Bd q → partsL (rdL g) p0 (parts (nth t j)).length ⟨p, tails (showTo t t.length) (parts (nth t j)) ++ q, t⟩ = .ok (⟨p + (tails (showTo t t.length) (parts (nth t j))).length, q, t⟩, (parts (nth t j)).map Int.toNat) := by
        intro p0
        refine parts_seq (showTo t t.length) p0 (parts (nth t j)) _ (by simp) ?_
        intro x hx p q hq
        obtain ⟨h1, h2⟩ := mem_zip_map Int.toNat _ x hx
        obtain ⟨c1, c2, c3, c4⟩ := part_text hD hj hX h1
        have hd := hD j hj x.1 h1
        rw [c1, h2]
        exact ih x.1.toNat (by omega) (by omega) c2 g p q (by omega) (.inl hq)
      have hw : ((parts (nth t j)).map Int.toNat).map (fun (i : Nat) => width t (i : Int)) = (parts (nth t j)).map (width t) := by
        rw [List.map_map]
        apply List.map_congr_left
        intro p hp
        have hd := hD j hj p hp
        simp only [Function.comp]
        congr 1; omega
      have key := node_read hG.ok hD hj hX (by simp) hw hp p q hq
      rw [key, reparts_self hD hj]
      unfold putL
      rw [place_at hG hj]
/-- Two nodes of a good list with one text are one. -/
theorem text_inj {t : List Nd} (hG : Neat t) {j k : Nat} (hj : j < t.length) (hk : k < t.length) (hX : X t j ≠ []) (h : X t j = X t k) : j = k := by
  have h1 := reread hG j hj hX ((X t j).length + 1) 0 [] (by omega) (.inl bd_nil)
  have h2 := reread hG k hk (by rw [← h]; exact hX) ((X t j).length + 1) 0 [] (by rw [h]; omega) (.inl bd_nil)
  rw [← h, h1] at h2
  injection h2 with h2
  injection h2

end Go.Proofs.Ytnkkigoeffghdaa.Tx3

/- Terms as trees: what a node is with all that lies below it. -/
namespace Go.Proofs.Ytnkkigoeffghdaa.Tr0
open Nd0 Pl1 Tm0 Tm1 Tm3 Tm8 Tx0 Tx1 Tx2 Tx3

inductive Tr where
  | leaf (op w k : Int)
  | one (op w k b : Int) (x : Tr)
  | two (op w : Int) (x y : Tr)
  | three (op w : Int) (x y z : Tr)
def Tr.nil : Tr := .leaf 0 0 0
def Tr.op : Tr → Int
  | .leaf o _ _ => o
  | .one o _ _ _ _ => o
  | .two o _ _ _ => o
  | .three o _ _ _ _ => o
def Tr.wid : Tr → Int
  | .leaf _ w _ => w
  | .one _ w _ _ _ => w
  | .two _ w _ _ => w
  | .three _ w _ _ _ => w
/-- A node over the trees of its parts. -/
def mkF (n : Nd) (f : Nat → Tr) : Tr :=
  if n.op = 2 ∨ n.op = 17 ∨ n.op = 19 ∨ n.op = 20 then .one n.op n.w n.k n.b (f n.a.toNat)
  else if 3 ≤ n.op ∧ n.op ≤ 16 then .two n.op n.w (f n.a.toNat) (f n.b.toNat)
  else if n.op = 18 then .three n.op n.w (f n.a.toNat) (f n.b.toNat) (f n.c.toNat)
  else .leaf n.op n.w n.k
def trTo (l : List Nd) : Nat → List Tr
  | 0 => []
  | k + 1 => trTo l k ++ [mkF (nth l k) fun i => (trTo l k).getD i Tr.nil]
/-- The tree of node i. -/
def tr (l : List Nd) (i : Nat) : Tr := (trTo l l.length).getD i Tr.nil

theorem mk_one {n : Nd} (h : n.op = 2 ∨ n.op = 17 ∨ n.op = 19 ∨ n.op = 20) (f : Nat → Tr) : mkF n f = .one n.op n.w n.k n.b (f n.a.toNat) := if_pos h
theorem mk_two {n : Nd} (h : 3 ≤ n.op ∧ n.op ≤ 16) (f : Nat → Tr) : mkF n f = .two n.op n.w (f n.a.toNat) (f n.b.toNat) := by unfold mkF; rw [if_neg (by omega), if_pos h]
theorem mk_three {n : Nd} (h : n.op = 18) (f : Nat → Tr) : mkF n f = .three n.op n.w (f n.a.toNat) (f n.b.toNat) (f n.c.toNat) := by unfold mkF; rw [if_neg (by omega), if_neg (by omega), if_pos h]
theorem mk_leaf {n : Nd} (h : ¬ (n.op = 2 ∨ n.op = 17 ∨ n.op = 19 ∨ n.op = 20)) (h2 : ¬ (3 ≤ n.op ∧ n.op ≤ 16)) (h3 : ¬ n.op = 18) (f : Nat → Tr) : mkF n f = .leaf n.op n.w n.k := by unfold mkF; rw [if_neg h, if_neg h2, if_neg h3]
theorem mk_op (n : Nd) (f : Nat → Tr) : (mkF n f).op = n.op := by
  unfold mkF
  split
  · rfl
  · split
    · rfl
    · split <;> rfl
theorem mk_wid (n : Nd) (f : Nat → Tr) : (mkF n f).wid = n.w := by
  unfold mkF
  split
  · rfl
  · split
    · rfl
    · split <;> rfl
theorem mk_congr {n : Nd} {f g : Nat → Tr} (h : ∀ p ∈ parts n, f p.toNat = g p.toNat) : mkF n f = mkF n g := by
  by_cases h1 : n.op = 2 ∨ n.op = 17 ∨ n.op = 19 ∨ n.op = 20
  · rw [parts_one h1] at h
    rw [mk_one h1, mk_one h1, h n.a (by simp)]
  · by_cases h2 : 3 ≤ n.op ∧ n.op ≤ 16
    · rw [parts_two h2] at h
      rw [mk_two h2, mk_two h2, h n.a (by simp), h n.b (by simp)]
    · by_cases h3 : n.op = 18
      · rw [parts_three h3] at h
        rw [mk_three h3, mk_three h3, h n.a (by simp), h n.b (by simp), h n.c (by simp)]
      · rw [mk_leaf h1 h2 h3, mk_leaf h1 h2 h3]
/-- The same node with other places for its parts. -/
theorem mk_parts {n : Nd} {is : List Nat} {f g : Nat → Tr} (hl : is.length = (parts n).length) (h : is.map f = (parts n).map (fun p => g p.toNat)) : mkF (reparts n is) f = mkF n g := by
  obtain ⟨op, w, k, a, b, c⟩ := n
  by_cases h1 : op = 2 ∨ op = 17 ∨ op = 19 ∨ op = 20
  · rw [parts_one h1] at hl h
    match is, hl, h with
    | [i], _, h =>
      simp only [List.map_cons, List.map_nil, List.cons.injEq, and_true] at h
      rw [mk_one (n := reparts ⟨op, w, k, a, b, c⟩ [i]) (by exact h1), mk_one (by exact h1), ← h]
      rfl
  · by_cases h2 : 3 ≤ op ∧ op ≤ 16
    · rw [parts_two h2] at hl h
      match is, hl, h with
      | [i, j], _, h =>
        simp only [List.map_cons, List.map_nil, List.cons.injEq, and_true] at h
        rw [mk_two (n := reparts ⟨op, w, k, a, b, c⟩ [i, j]) (by exact h2), mk_two (by exact h2), ← h.1, ← h.2]
        rfl
    · by_cases h3 : op = 18
      · rw [parts_three h3] at hl h
        match is, hl, h with
        | [i, j, m], _, h =>
          simp only [List.map_cons, List.map_nil, List.cons.injEq, and_true] at h
          rw [mk_three (n := reparts ⟨op, w, k, a, b, c⟩ [i, j, m]) (by exact h3), mk_three (by exact h3), ← h.1, ← h.2.1, ← h.2.2]
          rfl
      · rw [mk_leaf (n := reparts ⟨op, w, k, a, b, c⟩ is) (by exact h1) (by exact h2) (by exact h3), mk_leaf (by exact h1) (by exact h2) (by exact h3)]
        rfl
theorem trTo_length (l : List Nd) (k : Nat) : (trTo l k).length = k := by
  induction k with
  | zero => rfl
  | succ k ih => show (trTo l k ++ [_]).length = _; rw [List.length_append, ih]; rfl
theorem tr_prefix (l : List Nd) {i k : Nat} (hi : i < k) : ∀ n, k ≤ n → (trTo l n).getD i Tr.nil = (trTo l k).getD i Tr.nil := by
  intro n hn
  obtain ⟨d, rfl⟩ : ∃ d, n = k + d := ⟨n - k, by omega⟩
  clear hn
  induction d with
  | zero => rfl
  | succ d ih =>
    rw [← ih]
    show (trTo l (k + d) ++ [_]).getD i Tr.nil = _
    rw [List.getD_eq_getElem?_getD, List.getElem?_append_left (by rw [trTo_length]; omega), ← List.getD_eq_getElem?_getD]
theorem tr_at {l : List Nd} (hD : Down l) {i : Nat} (hi : i < l.length) : tr l i = mkF (nth l i) (tr l) := by
  unfold tr
  rw [tr_prefix l (k := i + 1) (by omega) l.length (by omega)]
  show (trTo l i ++ [mkF (nth l i) fun j => (trTo l i).getD j Tr.nil]).getD i Tr.nil = _
  rw [List.getD_eq_getElem?_getD, List.getElem?_append_right (by rw [trTo_length]; exact Nat.le_refl _), trTo_length, Nat.sub_self]
  show mkF (nth l i) (fun j => (trTo l i).getD j Tr.nil) = _
  refine mk_congr (fun p hp => ?_)
  have := hD i hi p hp
  exact (tr_prefix l (i := p.toNat) (k := i) (by omega) l.length (by omega)).symm
theorem trTo_app (t m : List Nd) : ∀ k, k ≤ t.length → trTo (t ++ m) k = trTo t k := by
  intro k
  induction k with
  | zero => intro _; rfl
  | succ k ih =>
    intro hk
    show trTo (t ++ m) k ++ [_] = trTo t k ++ [_]
    rw [ih (by omega), nth_app (by omega)]
theorem tr_app (t m : List Nd) {j : Nat} (h : j < t.length) : tr (t ++ m) j = tr t j := by
  unfold tr
  rw [tr_prefix (t ++ m) (k := t.length) h (t ++ m).length (by simp), trTo_app t m _ (Nat.le_refl _)]
theorem tr_same {l T : List Nd} (hD : Down l) (hT : Down T) {i j : Nat} (hi : i < l.length) (hj : j < T.length) {is : List Nat} (hl : is.length = (parts (nth l i)).length)
    (hn : nth T j = reparts (nth l i) is) (hx : is.map (tr T) = (parts (nth l i)).map (fun p => tr l p.toNat)) : tr T j = tr l i := by
  rw [tr_at hD hi, tr_at hT hj, hn]
  exact mk_parts hl hx

end Go.Proofs.Ytnkkigoeffghdaa.Tr0

/- Plain laws of words: what the laws of chapter 1 ask of the numbers. -/
namespace Go.Proofs.Ytnkkigoeffghdaa.Pl2
open Go.RowKit
open Pl1

theorem wok_mod {m : Int} (x : Int) (h1 : 1 ≤ m) (h2 : m ≤ 8) : wok m (x % p2 m.toNat) = true :=
  wok_iff.2 ⟨h1, h2, emod_le _⟩
theorem add_eq {m a b : Int} (ha : wok m a = true) (hb : wok m b = true) : vAdd m a b = (a + b) % p2 m.toNat := by simp [vAdd, ha, hb]
theorem sub_eq {m a b : Int} (ha : wok m a = true) (hb : wok m b = true) : vSub m a b = (a - b) % p2 m.toNat := by simp [vSub, ha, hb]
theorem mul_eq {m a b : Int} (ha : wok m a = true) (hb : wok m b = true) : vMul m a b = a * b % p2 m.toNat := by simp [vMul, ha, hb]
theorem flip_eq {m a : Int} (ha : wok m a = true) : vFlip m a = p2 m.toNat - 1 - a := by simp [vFlip, ha]
theorem wok_add {m a b : Int} (ha : wok m a = true) (hb : wok m b = true) : wok m (vAdd m a b) = true := by
  obtain ⟨h1, h2, _⟩ := wok_iff.1 ha
  rw [add_eq ha hb]; exact wok_mod _ h1 h2
theorem wok_sub {m a b : Int} (ha : wok m a = true) (hb : wok m b = true) : wok m (vSub m a b) = true := by
  obtain ⟨h1, h2, _⟩ := wok_iff.1 ha
  rw [sub_eq ha hb]; exact wok_mod _ h1 h2
theorem wok_mul {m a b : Int} (ha : wok m a = true) (hb : wok m b = true) : wok m (vMul m a b) = true := by
  obtain ⟨h1, h2, _⟩ := wok_iff.1 ha
  rw [mul_eq ha hb]; exact wok_mod _ h1 h2
theorem wok_flip {m a : Int} (ha : wok m a = true) : wok m (vFlip m a) = true := by
  obtain ⟨h1, h2, h3, h4⟩ := wok_iff.1 ha
  rw [flip_eq ha]; exact wok_iff.2 ⟨h1, h2, by omega, by omega⟩

theorem sub_add {m a b : Int} (ha : wok m a = true) (hb : wok m b = true) : vSub m (vAdd m a b) b = a := by
  obtain ⟨h1, h2, h3, h4⟩ := wok_iff.1 ha
  rw [sub_eq (wok_add ha hb) hb, add_eq ha hb, Int.emod_sub_emod, show a + b - b = a by omega, Int.emod_eq_of_lt h3 h4]
theorem mul_add {m a b c : Int} (ha : wok m a = true) (hb : wok m b = true) (hc : wok m c = true) : vMul m a (vAdd m b c) = vAdd m (vMul m a b) (vMul m a c) := by
  rw [mul_eq ha (wok_add hb hc), add_eq hb hc, add_eq (wok_mul ha hb) (wok_mul ha hc), mul_eq ha hb, mul_eq ha hc, ← Int.add_emod, Int.mul_emod, Int.emod_emod, ← Int.mul_emod, Int.mul_add]
theorem add_comm {m a b : Int} : vAdd m a b = vAdd m b a := by
  unfold vAdd; rw [Bool.and_comm, Int.add_comm]
theorem wok_zero {m : Int} (h1 : 1 ≤ m) (h2 : m ≤ 8) : wok m 0 = true := wok_iff.2 ⟨h1, h2, by omega, by have := p2_pos m.toNat; omega⟩
theorem p2_two {m : Int} (h1 : 1 ≤ m) : 2 ≤ p2 m.toNat := by
  have := p2_mono (show 1 ≤ m.toNat by omega); have e : p2 1 = 2 := rfl; omega
theorem wok_one {m : Int} (h1 : 1 ≤ m) (h2 : m ≤ 8) : wok m 1 = true := wok_iff.2 ⟨h1, h2, by omega, by have := p2_two h1; omega⟩
theorem flip_sub {m a : Int} (ha : wok m a = true) : vFlip m a = vSub m (vSub m 0 a) 1 := by
  obtain ⟨h1, h2, h3, h4⟩ := wok_iff.1 ha
  have h0 := wok_zero h1 h2
  rw [flip_eq ha, sub_eq (wok_sub h0 ha) (wok_one h1 h2), sub_eq h0 ha, Int.emod_sub_emod, ← Int.add_emod_right, Int.emod_eq_of_lt (by omega) (by omega)]
  omega
theorem flip_flip {m a : Int} (ha : wok m a = true) : vFlip m (vFlip m a) = a := by
  rw [flip_eq (wok_flip ha), flip_eq ha]; omega
theorem div_zero {m a b : Int} (ha : wok m a = true) (hb : wok m b = true) (hz : b = 0) : vDiv m a b = p2 m.toNat - 1 ∧ vRem m a b = a := by
  subst hz; simp [vDiv, vRem, ha, hb]
theorem div_rem {m a b : Int} (ha : wok m a = true) (hb : wok m b = true) (hz : b ≠ 0) : vDiv m a b * b + vRem m a b = a ∧ vRem m a b < b ∧ 0 ≤ vDiv m a b ∧ vDiv m a b ≤ 255 ∧ 0 ≤ vRem m a b := by
  obtain ⟨h1, h2, h3, h4⟩ := wok_iff.1 ha
  obtain ⟨_, _, h5, h6⟩ := wok_iff.1 hb
  have e1 : vDiv m a b = a / b := by simp [vDiv, ha, hb, hz]
  have e2 : vRem m a b = a % b := by simp [vRem, ha, hb, hz]
  have hl := p2_le m.toNat (by omega)
  rw [e1, e2]
  refine ⟨by rw [Int.mul_comm]; exact Int.mul_ediv_add_emod a b, Int.emod_lt_of_pos _ (by omega), Int.ediv_nonneg h3 h5, ?_, Int.emod_nonneg _ hz⟩
  have := Int.ediv_le_self b h3
  omega
theorem none_two {m a b : Int} (h : (wok m a && wok m b) = false) : vAdd m a b = 0 ∧ vSub m a b = 0 ∧ vMul m a b = 0 ∧ vDiv m a b = 0 ∧ vLess m a b = 0 ∧ vLessSigned m a b = 0 := by
  simp [vAdd, vSub, vMul, vDiv, vLess, vLessSigned, h]

end Go.Proofs.Ytnkkigoeffghdaa.Pl2
