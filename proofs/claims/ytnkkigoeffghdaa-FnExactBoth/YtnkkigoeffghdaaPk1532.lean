/- Small texts of mine, one behind the other. -/
import Derived.Test.YtnkkigoeffghdaaPk1520
import Derived.Test.YtnkkigoeffghdaaPk156
import Derived.Test.YtnkkigoeffghdaaPk1527
/- A term's text is read as a list with a node of that text; what a text that is cut off is read as. -/
namespace Go.Proofs.Ytnkkigoeffghdaa.Tx4
open Nd0 Pl1 Tm0 Tm1 Tm3 Tm8 Tx0 Tx1 Tx2 Tx3 Tr0

theorem with_maps {ts us : List (List UInt8)} : ∀ (ps qs : List Int) (h : List UInt8), ps.map (txt ts) = qs.map (txt us) → withParts ts h ps = withParts us h qs := by
  intro ps
  induction ps with
  | nil => intro qs h e
           cases qs with
           | nil => rfl
           | cons q qs => cases e
  | cons p ps ih =>
    intro qs h e
    cases qs with
    | nil => cases e
    | cons q qs =>
      simp only [List.map_cons, List.cons.injEq] at e
      simp only [withParts]
      rw [e.1, ih qs _ e.2]
theorem parts_reparts {n : Nd} {is : List Nat} (hl : is.length = (parts n).length) : parts (reparts n is) = is.map fun (i : Nat) => (i : Int) := by
  obtain ⟨op, w, k, a, b, c⟩ := n
  by_cases h1 : op = 2 ∨ op = 17 ∨ op = 19 ∨ op = 20
  · rw [parts_one h1] at hl
    match is, hl with
    | [i], _ => exact parts_one (n := ⟨op, w, k, (i : Int), b, c⟩) h1
  · by_cases h2 : 3 ≤ op ∧ op ≤ 16
    · rw [parts_two h2] at hl
      match is, hl with
      | [i, j], _ => exact parts_two (n := ⟨op, w, k, (i : Int), (j : Int), c⟩) h2
    · by_cases h3 : op = 18
      · rw [parts_three h3] at hl
        match is, hl with
        | [i, j, m], _ => exact parts_three (n := ⟨op, w, k, (i : Int), (j : Int), (m : Int)⟩) h3
      · rw [parts_none h1 h2 h3] at hl
        have his : is = [] := List.eq_nil_of_length_eq_zero hl
        subst his
        exact parts_none (n := ⟨op, w, k, a, b, c⟩) h1 h2 h3
theorem head_reparts {n : Nd} {is : List Nat} (hl : is.length = (parts n).length) : headL (reparts n is) = headL n := by
  obtain ⟨op, w, k, a, b, c⟩ := n
  by_cases hq : op = 19 ∨ op = 20
  · rw [parts_one (by simp only; omega)] at hl
    match is, hl with
    | [i], _ => rcases hq with h | h <;> subst h <;> rfl
  · have h1 : ¬ op = 19 := by omega
    have h2 : ¬ op = 20 := by omega
    unfold headL reparts
    simp only [if_neg h1, if_neg h2]
theorem shape_reparts {n : Nd} {is : List Nat} (ws : List Int) (hl : is.length = (parts n).length) : shapeOk (reparts n is) ws = shapeOk n ws := by
  obtain ⟨op, w, k, a, b, c⟩ := n
  by_cases h1 : op = 2 ∨ op = 17 ∨ op = 19 ∨ op = 20
  · rw [parts_one h1] at hl
    match is, hl with
    | [i], _ =>
      show shapeOk ⟨op, w, k, (i : Int), b, c⟩ ws = _
      unfold shapeOk
      dsimp only
      rcases h1 with h | h | h | h <;> subst h <;> rfl
  · by_cases h2 : 3 ≤ op ∧ op ≤ 16
    · rw [parts_two h2] at hl
      match is, hl with
      | [i, j], _ =>
        show shapeOk ⟨op, w, k, (i : Int), (j : Int), c⟩ ws = _
        unfold shapeOk
        dsimp only
        have n0 : ¬ op = 0 := by omega
        have n1 : ¬ op = 1 := by omega
        have n2 : ¬ op = 2 := by omega
        have n3 : ¬ op = 17 := by omega
        have n4 : ¬ op = 18 := by omega
        have n5 : ¬ (op = 19 ∨ op = 20) := by omega
        simp only [if_neg n0, if_neg n1, if_neg n2, if_neg n3, if_neg n4, if_neg n5]
    · by_cases h3 : op = 18
      · rw [parts_three h3] at hl
        match is, hl with
        | [i, j, m], _ => subst h3; rfl
      · rw [parts_none h1 h2 h3] at hl
        have his : is = [] := List.eq_nil_of_length_eq_zero hl
        subst his
        rfl
/-- The text of a node whose parts have the texts of another's. -/
theorem X_same {l T : List Nd} (hD : Down l) (hT : Down T) {i j : Nat} (hi : i < l.length) (hj : j < T.length) {is : List Nat} (hl : is.length = (parts (nth l i)).length)
    (hn : nth T j = reparts (nth l i) is) (hx : is.map (fun (k : Nat) => X T k) = (parts (nth l i)).map (fun p => X l p.toNat)) : X T j = X l i := by
  rw [X_at hD hi, X_at hT hj, hn]
  have hd := hD i hi
  generalize nth l i = n at hl hx hd
  unfold showN
  have e1 : (reparts n is).op = n.op := rfl
  have e2 : (reparts n is).w = n.w := rfl
  have e3 : (reparts n is).k = n.k := rfl
  rw [e1, e2, e3, head_reparts hl, parts_reparts hl]
  have e4 : withParts (showTo T T.length) (headL n) (is.map fun (i : Nat) => (i : Int)) = withParts (showTo l l.length) (headL n) (parts n) := by
    apply with_maps
    rw [List.map_map]
    refine Eq.trans (b := is.map fun (k : Nat) => X T k) rfl (hx.trans ?_)
    apply List.map_congr_left
    intro p hp
    have := hd p hp
    unfold X
    congr 1; omega
  rw [e4]
theorem node_app {t m : List Nd} {k : Nat} (hk : k < t.length) : nodeOk (t ++ m) k = true ↔ nodeOk t k = true := by
  have key : (∀ p ∈ parts (nth t k), 0 ≤ p ∧ p < (k : Int)) → (parts (nth t k)).map (width (t ++ m)) = (parts (nth t k)).map (width t) := by
    intro h
    apply List.map_congr_left
    intro p hp
    have := h p hp
    unfold width
    rw [nth_app (by omega)]
  simp only [nodeOk, Bool.and_eq_true, List.all_eq_true, decide_eq_true_eq]
  rw [nth_app hk]
  constructor
  · rintro ⟨⟨h1, h2⟩, h3⟩
    rw [key h1] at h3; exact ⟨⟨h1, h2⟩, h3⟩
  · rintro ⟨⟨h1, h2⟩, h3⟩
    rw [← key h1] at h3; exact ⟨⟨h1, h2⟩, h3⟩
theorem neat_nil : Neat [] := ⟨fun k h => by simp at h, fun j k h => by simp at h⟩
/-- A right node that is not there yet, put behind a good list. -/
theorem neat_snoc {t : List Nd} {n : Nd} (hG : Neat t) (hn : nodeOk (t ++ [n]) t.length = true) (hp : placeOf t n = none) : Neat (t ++ [n]) := by
  refine ⟨fun k hk => ?_, fun j k hj hk e => ?_⟩
  · by_cases h : k < t.length
    · exact (node_app h).2 (hG.ok k h)
    · have : k = t.length := by simp at hk; omega
      subst this; exact hn
  · simp at hj hk
    by_cases h1 : j < t.length
    · by_cases h2 : k < t.length
      · rw [nth_app h1, nth_app h2] at e; exact hG.one j k h1 h2 e
      · have : k = t.length := by omega
        subst this
        rw [nth_app h1, nth_end] at e
        exact absurd e (place_none hp h1)
    · have hj' : j = t.length := by omega
      by_cases h2 : k < t.length
      · subst hj'
        rw [nth_app h2, nth_end] at e
        exact absurd e.symm (place_none hp h2)
      · omega
/-- Every node of t has the text of one of l. -/
def Emb (l t : List Nd) : Prop := ∀ j, j < t.length → X t j ≠ [] ∧ ∃ i, i < l.length ∧ X t j = X l i ∧ tr t j = tr l i
theorem length_le_of_inj {α : Type} [DecidableEq α] : ∀ (a b : List α), a.Nodup → (∀ x ∈ a, x ∈ b) → a.length ≤ b.length := by
  intro a
  induction a with
  | nil => intro b _ _; exact Nat.zero_le _
  | cons x a ih =>
    intro b hn hs
    have hx : x ∈ b := hs x (by simp)
    have hn' := List.nodup_cons.1 hn
    have := ih (b.erase x) hn'.2 (fun y hy => by
      have hne : y ≠ x := by intro e; subst e; exact hn'.1 hy
      exact (List.mem_erase_of_ne hne).2 (hs y (by simp [hy])))
    rw [List.length_erase_of_mem hx] at this
    have : 0 < b.length := List.length_pos_of_mem hx
    simp only [List.length_cons]; omega
/-- A good list whose texts are all among those of l, and which lacks one, is shorter. -/
theorem emb_short {l t : List Nd} (hG : Neat t) (hE : Emb l t) {i : Nat} (hi : i < l.length) (hn : ∀ j, j < t.length → X t j ≠ X l i) : t.length + 1 ≤ l.length := by
  have h := length_le_of_inj (X l i :: (List.range t.length).map (X t)) ((List.range l.length).map (X l)) (by
    rw [List.nodup_cons]
    refine ⟨?_, ?_⟩
    · intro hm
      obtain ⟨j, hj, e⟩ := List.mem_map.1 hm
      exact hn j (List.mem_range.1 hj) e
    · rw [List.nodup_iff_pairwise_ne, List.pairwise_map]
      refine List.Pairwise.imp_of_mem ?_ (List.nodup_range (n := t.length))
      intro a b ha hb hab e
      exact hab (text_inj hG (List.mem_range.1 ha) (List.mem_range.1 hb) (hE a (List.mem_range.1 ha)).1 e)) (by
    intro x hx
    rcases List.mem_cons.1 hx with e | e
    · subst e; exact List.mem_map.2 ⟨i, List.mem_range.2 hi, rfl⟩
    · obtain ⟨j, hj, rfl⟩ := List.mem_map.1 e
      obtain ⟨i', hi', e', _⟩ := (hE j (List.mem_range.1 hj)).2
      exact List.mem_map.2 ⟨i', List.mem_range.2 hi', e'.symm⟩)
  simpa using h
/-- What reading the text of node i of l does to a good list t. -/
def Reads (l : List Nd) (i : Nat) : Prop := ∀ t, Neat t → Emb l t → t.length ≤ 80 → ∃ t' j m, t' = t ++ m ∧ Neat t' ∧ Emb l t' ∧ t'.length ≤ 80 ∧ j < t'.length ∧ X t' j = X l i ∧ tr t' j = tr l i ∧ (nth t' j).w = (nth l i).w ∧
  ∀ g p q, (X l i).length < g → (Bd q ∨ opens (X l i) = true) → rdL g ⟨p, X l i ++ q, t⟩ = .ok (⟨p + (X l i).length, q, t'⟩, j)
/-- The same of parts one behind the other. -/
theorem parts_reads {l : List Nd} (ps : List Int) (B : Nat) (h : ∀ p ∈ ps, 0 ≤ p ∧ Reads l p.toNat ∧ txt (showTo l l.length) p = X l p.toNat ∧ (X l p.toNat).length < B) :
    ∀ t, Neat t → Emb l t → t.length ≤ 80 → ∃ (t' : List Nd) (is : List Nat) (m : List Nd), t' = t ++ m ∧ Neat t' ∧ Emb l t' ∧ t'.length ≤ 80 ∧ is.length = ps.length ∧ (∀ i ∈ is, i < t'.length) ∧
      is.map (fun (k : Nat) => X t' k) = ps.map (fun p => X l p.toNat) ∧ is.map (tr t') = ps.map (fun p => tr l p.toNat) ∧ is.map (fun (i : Nat) => width t' (i : Int)) = ps.map (width l) ∧
      ∀ g p0 p q, B ≤ g → Bd q → partsL (rdL g) p0 ps.length ⟨p, tails (showTo l l.length) ps ++ q, t⟩ = .ok (⟨p + (tails (showTo l l.length) ps).length, q, t'⟩, is) := by
  induction ps with
  | nil =>
    intro t hG hE h80
    exact ⟨t, [], [], by simp, hG, hE, h80, rfl, fun i hi => (by cases hi), rfl, rfl, rfl, fun g p0 p q _ _ => rfl⟩
  | cons a ps ih =>
    intro t hG hE h80
    obtain ⟨ha0, har, hat, haB⟩ := h a (by simp)
    obtain ⟨t1, j, m1, e1, hG1, hE1, h1, hj, hX, hTr, hw, hr⟩ := har t hG hE h80
    obtain ⟨t2, is, m2, e2, hG2, hE2, h2, hl, hlt, hXs, hTs, hws, hrs⟩ := ih (fun p hp => h p (by simp [hp])) t1 hG1 hE1 h1
    have hj2 : j < t2.length := by rw [e2]; simp; omega
    refine ⟨t2, j :: is, m1 ++ m2, by rw [e2, e1]; simp, hG2, hE2, h2, by simp [hl], ?_, ?_, ?_, ?_, ?_⟩
    · intro i hi
      rcases List.mem_cons.1 hi with e | e
      · subst e; exact hj2
      · exact hlt i e
    · simp only [List.map_cons]
      rw [hXs, e2, X_app t1 m2 hj, hX]
    · simp only [List.map_cons]
      rw [hTs, e2, tr_app t1 m2 hj, hTr]
    · simp only [List.map_cons]
      rw [hws]
      congr 1
      unfold width
      rw [Int.toNat_natCast, e2, nth_app hj, hw]
    · intro g p0 p q hg hq
      have k1 := hr g (p + 1) (tails (showTo l l.length) ps ++ q) (by omega) (.inl (bd_tails _ _ hq))
      have k2 := hrs g p0 (p + 1 + (X l a.toNat).length) q hg hq
      have e3 : tails (showTo l l.length) (a :: ps) ++ q = 32 :: (X l a.toNat ++ (tails (showTo l l.length) ps ++ q)) := by simp [tails, hat]
      rw [e3, List.length_cons]
      simp only [partsL]
      rw [blank_mk]
      simp only
      rw [k1]
      simp only
      rw [k2]
      simp only
      congr 3
      simp [tails, hat]; omega
/-- The text of any node that has one is read. -/
theorem reads_all {l : List Nd} (hN : ∀ k, k < l.length → nodeOk l k = true) (hD : Down l) (hl80 : l.length ≤ 80) : ∀ i, i < l.length → X l i ≠ [] → Reads l i := by
  intro i
  induction i using Nat.strongRecOn with
  | ind i ih =>
    intro hi hX t hG hE h80
    have hpp : ∀ p ∈ parts (nth l i), 0 ≤ p ∧ Reads l p.toNat ∧ txt (showTo l l.length) p = X l p.toNat ∧ (X l p.toNat).length < (X l i).length := by
      intro p hp
      have hd := hD i hi p hp
      obtain ⟨c1, c2, c3, c4⟩ := part_text hD hi hX hp
      exact ⟨hd.1, ih p.toNat (by omega) (by omega) c2, c1, by omega⟩
    obtain ⟨t2, is, m2, e2, hG2, hE2, h2, hl, hlt, hXs, hTs, hws, hrs⟩ := parts_reads (parts (nth l i)) (X l i).length hpp t hG hE h80
    have hD2 := hG2.down
    have key : ∀ g p q, (X l i).length ≤ g → (Bd q ∨ opens (X l i) = true) → rdL (g + 1) ⟨p, X l i ++ q, t⟩ = match putL t2 (reparts (nth l i) is) p with
        | .error e => .error e
        | .ok (t3, j) => .ok (⟨p + (X l i).length, q, t3⟩, j) := fun g p q hg hq =>
      node_read hN hD hi hX hl hws (fun p0 p q hq => hrs g p0 p q hg hq) p q hq
    have key2 : ∀ g p q, (X l i).length ≤ g → (Bd q ∨ opens (X l i) = true) → rdL (g + 1) ⟨p, X l i ++ q, t2⟩ = match putL t2 (reparts (nth l i) is) p with
        | .error e => .error e
        | .ok (t3, j) => .ok (⟨p + (X l i).length, q, t3⟩, j) := by
      intro g p q hg hq
      refine node_read hN hD hi hX hl hws (fun p0 => ?_) p q hq
      refine parts_seq (showTo l l.length) p0 (parts (nth l i)) is hl ?_
      intro x hx p q hq
      obtain ⟨k, hk, rfl⟩ := List.getElem_of_mem hx
      have hk1 : k < (parts (nth l i)).length := by rw [List.length_zip] at hk; omega
      have hk2 : k < is.length := by omega
      rw [List.getElem_zip]
      simp only
      have hm := List.getElem_mem hk1
      obtain ⟨c0, c1, c2, c3⟩ := hpp _ hm
      obtain ⟨_, d2, _, _⟩ := part_text hD hi hX hm
      have hxe : X t2 is[k] = X l ((parts (nth l i))[k]).toNat := by
        have := congrArg (fun z => z[k]?) hXs
        simp only [List.getElem?_map, List.getElem?_eq_getElem hk1, List.getElem?_eq_getElem hk2, Option.map_some] at this
        exact Option.some.inj this
      rw [c2, ← hxe]
      exact reread hG2 is[k] (hlt _ (List.getElem_mem hk2)) (by rw [hxe]; exact d2) g p q (by rw [hxe]; omega) (.inl hq)
    cases hpl : placeOf t2 (reparts (nth l i) is) with
    | some j =>
      obtain ⟨hj, hn⟩ := place_some hpl
      refine ⟨t2, j, m2, e2, hG2, hE2, h2, hj, X_same hD hD2 hi hj hl hn hXs, tr_same hD hD2 hi hj hl hn hTs, by rw [hn]; rfl, ?_⟩
      intro g p q hg hq
      cases g with
      | zero => omega
      | succ g =>
        rw [key g p q (by omega) hq]
        unfold putL
        rw [hpl]
    | none =>
      have hno : ∀ j, j < t2.length → X t2 j ≠ X l i := by
        intro j hj e
        have r1 := reread hG2 j hj (by rw [e]; exact hX) ((X l i).length + 1) 0 [] (by rw [e]; omega) (.inl bd_nil)
        rw [e, key2 (X l i).length 0 [] (Nat.le_refl _) (.inl bd_nil)] at r1
        unfold putL at r1
        rw [hpl] at r1
        simp only at r1
        split at r1
        · cases r1
        · rename_i t3 j3 he
          split at he
          · split at he
            · cases he
            · cases he
              injection r1 with r1
              injection r1 with r1 r2
              injection r1 with _ _ r1
              have := congrArg List.length r1
              simp at this
          · cases he
      have hshort := emb_short hG2 hE2 hi hno
      have hok := hN i hi
      have hnode : nodeOk (t2 ++ [reparts (nth l i) is]) t2.length = true := by
        have hwd := node_width hok
        have hsh : shapeOk (nth l i) ((parts (nth l i)).map (width l)) = true := by
          simp only [nodeOk, Bool.and_eq_true] at hok; exact hok.2
        have ew : (is.map fun (i : Nat) => (i : Int)).map (width (t2 ++ [reparts (nth l i) is])) = (parts (nth l i)).map (width l) := by
          rw [← hws, List.map_map]
          apply List.map_congr_left
          intro k hk
          have := hlt k hk
          simp only [Function.comp, width]
          rw [Int.toNat_natCast, nth_app this]
        simp only [nodeOk, Bool.and_eq_true, List.all_eq_true, decide_eq_true_eq]
        rw [nth_end, parts_reparts hl, ew, shape_reparts _ hl]
        refine ⟨⟨?_, hwd⟩, hsh⟩
        intro p hp
        obtain ⟨k, hk, rfl⟩ := List.mem_map.1 hp
        have := hlt k hk
        omega
      have hG3 := neat_snoc hG2 hnode hpl
      have hjl : t2.length < (t2 ++ [reparts (nth l i) is]).length := by simp
      have hXn : X (t2 ++ [reparts (nth l i) is]) t2.length = X l i := by
        refine X_same hD hG3.down hi hjl hl (nth_end _ _) ?_
        rw [← hXs]
        apply List.map_congr_left
        intro k hk
        exact X_app _ _ (hlt k hk)
      have hTn : tr (t2 ++ [reparts (nth l i) is]) t2.length = tr l i := by
        refine tr_same hD hG3.down hi hjl hl (nth_end _ _) ?_
        rw [← hTs]
        apply List.map_congr_left
        intro k hk
        exact tr_app _ _ (hlt k hk)
      refine ⟨t2 ++ [reparts (nth l i) is], t2.length, m2 ++ [reparts (nth l i) is], by rw [e2]; simp, hG3, ?_, by simp; omega, hjl, hXn, hTn, by rw [nth_end]; rfl, ?_⟩
      · intro j hj
        simp at hj
        by_cases h : j < t2.length
        · rw [X_app _ _ h, tr_app _ _ h]; exact hE2 j h
        · have : j = t2.length := by omega
          subst this
          rw [hXn, hTn]
          exact ⟨hX, i, hi, rfl, rfl⟩
      · intro g p q hg hq
        cases g with
        | zero => omega
        | succ g =>
          rw [key g p q (by omega) hq]
          unfold putL
          rw [hpl]
          simp only
          rw [if_pos hnode, if_neg (by omega)]
theorem term_all {l : List Nd} (hT : termOk l = true) : ∀ k, k < l.length → nodeOk l k = true := fun _ hk => term_node hT hk
theorem show_X {l : List Nd} (hT : termOk l = true) : showL l = X l (l.length - 1) := by
  have := term_len hT
  unfold showL X
  rw [if_pos hT]
  congr 1; omega
/-- What is written of a term is read: as a term of which the same is written. -/
theorem show_read {l : List Nd} (hT : termOk l = true) (hS : showL l ≠ []) :
    ∃ (t : List Nd) (j : Nat), Neat t ∧ t.length ≤ 80 ∧ j < t.length ∧ X t j = showL l ∧ Emb l t ∧ tr t j = tr l (l.length - 1) ∧ ∀ g q, (showL l).length < g → (Bd q ∨ opens (showL l) = true) → rdL g ⟨0, showL l ++ q, []⟩ = .ok (⟨(showL l).length, q, t⟩, j) := by
  have hl := term_len hT
  rw [show_X hT] at hS ⊢
  obtain ⟨t', j, m, e, hG, hE, h80, hj, hX, hTr, _, hr⟩ := reads_all (term_all hT) (down_of hT) hl.2 (l.length - 1) (by omega) hS [] neat_nil (fun j h => by simp at h) (by simp)
  refine ⟨t', j, hG, h80, hj, hX, hE, hTr, fun g q hg hq => ?_⟩
  have := hr g 0 q hg hq
  rw [Nat.zero_add] at this
  exact this
theorem show_len {l : List Nd} (hT : termOk l = true) : (showL l).length ≤ 4000 := by
  have hl := term_len hT
  rw [show_X hT]
  exact X_len (term_all hT) (down_of hT) (by omega)
/-- The canonical form: right, with the same text. -/
theorem canon_tree {l : List Nd} (hT : termOk l = true) (hS : showL l ≠ []) : ∃ u, readL (showL l) = (u, 0, 0) ∧ termOk u = true ∧ showL u = showL l ∧ Neat u ∧ Emb l u ∧ tr u (u.length - 1) = tr l (l.length - 1) := by
  obtain ⟨t, j, hG, h80, hj, hX, hE, hTr, hr⟩ := show_read hT hS
  have k := hr ((showL l).length + 1) [] (by omega) (.inl bd_nil)
  rw [List.append_nil] at k
  have hsplit : t = t.take (j + 1) ++ t.drop (j + 1) := (List.take_append_drop _ _).symm
  have hlen : (t.take (j + 1)).length = j + 1 := by rw [List.length_take]; omega
  have hTu : termOk (t.take (j + 1)) = true := by
    refine term_good (by omega) (fun k hk => ?_)
    have h1 := hG.ok k (by omega)
    rw [hsplit] at h1
    exact (node_app hk).1 h1
  have hXt : ∀ i, i < j + 1 → X (t.take (j + 1)) i = X t i := fun i hi => by
    have := X_app (t.take (j + 1)) (t.drop (j + 1)) (j := i) (by omega)
    rw [← hsplit] at this
    exact this.symm
  have hRt : ∀ i, i < j + 1 → tr (t.take (j + 1)) i = tr t i := fun i hi => by
    have := tr_app (t.take (j + 1)) (t.drop (j + 1)) (j := i) (by omega)
    rw [← hsplit] at this
    exact this.symm
  have hNt : ∀ i, i < j + 1 → nth (t.take (j + 1)) i = nth t i := fun i hi => by
    have := nth_app (t := t.take (j + 1)) (m := t.drop (j + 1)) (j := i) (by omega)
    rw [← hsplit] at this
    exact this.symm
  refine ⟨t.take (j + 1), ?_, hTu, ?_, ⟨fun k hk => term_node hTu hk, fun a b ha hb e => ?_⟩, fun i hi => ?_, ?_⟩
  · unfold readL
    rw [if_neg (by have := show_len hT; omega), k]
    rfl
  · rw [show_X hTu, hlen, Nat.add_sub_cancel, ← hX]
    have := X_app (t.take (j + 1)) (t.drop (j + 1)) (j := j) (by omega)
    rw [← hsplit] at this
    exact this.symm
  · rw [hNt a (by omega), hNt b (by omega)] at e
    exact hG.one a b (by omega) (by omega) e
  · rw [hXt i (by omega), hRt i (by omega)]
    exact hE i (by omega)
  · rw [hlen, Nat.add_sub_cancel, hRt j (by omega)]
    exact hTr
theorem canon_all {l : List Nd} (hT : termOk l = true) (hS : showL l ≠ []) : ∃ u, readL (showL l) = (u, 0, 0) ∧ termOk u = true ∧ showL u = showL l := by
  obtain ⟨u, h1, h2, h3, _⟩ := canon_tree hT hS
  exact ⟨u, h1, h2, h3⟩
/-- A text in brackets that is cut off is none. -/
theorem cut_none {l : List Nd} (hT : termOk l = true) (hS : showL l ≠ []) (ho : opens (showL l) = true) {m : Nat} (hm : m < (showL l).length) : (readL ((showL l).take m)).2.1 ≠ 0 := by
  obtain ⟨t, j, hG, h80, hj, hX, _, _, hr⟩ := show_read hT hS
  have k := hr ((showL l).length + 1) [] (by omega) (.inl bd_nil)
  rw [List.append_nil] at k
  have hl := show_len hT
  intro h0
  unfold readL at h0
  rw [if_neg (by rw [List.length_take]; omega)] at h0
  split at h0
  · rename_i c p he
    have := (rd_fail _ _ _ he).1
    simp only at this h0
    omega
  · rename_i st i he
    split at h0
    · rename_i hz
      have er : st.r = [] := List.eq_nil_of_length_eq_zero hz
      obtain ⟨x, a1, a2, a3, a4⟩ := rd_local _ _ _ _ he
      rw [er, List.append_nil] at a1
      simp only at a1
      have hox : opens x = true := by
        have e1 : showL l = x ++ (showL l).drop m := by rw [← a1]; exact (List.take_append_drop _ _).symm
        rw [e1, opens_app _ a3] at ho; exact ho
      have hxl : x.length = m := by rw [← a1, List.length_take]; omega
      have k2 := a4 ((showL l).length + 1) ((showL l).drop m) (by omega) (.inr hox)
      simp only at k2
      rw [← a1, List.take_append_drop, k] at k2
      injection k2 with k2
      injection k2 with k2 _
      injection k2 with _ k2 _
      have := congrArg List.length k2
      rw [List.length_drop] at this
      simp at this
      omega
    · simp only at h0; omega

end Go.Proofs.Ytnkkigoeffghdaa.Tx4

/- A term's canonical form is worth what it is worth. -/
namespace Go.Proofs.Ytnkkigoeffghdaa.Vl3
open Nd0 Pl1 Pl2 Tm0 Tm1 Tm3 Tm5 Tm8 Tm11 Tm13 Tm14 Tx0 Tx2 Tx3 Tx4 Tr0 Vl1 Vl2
set_option linter.unusedVariables false

theorem remap_reparts (l : List Nd) (n : Nd) : remap l n = reparts n ((parts n).map fun q => (plc l q).toNat) := by
  have hp : ∀ q, ((plc l q).toNat : Int) = plc l q := fun q => by unfold plc; omega
  by_cases h1 : n.op = 2 ∨ n.op = 17 ∨ n.op = 19 ∨ n.op = 20
  · unfold remap reparts; rw [parts_one h1]; simp [hp]
  · by_cases h2 : 3 ≤ n.op ∧ n.op ≤ 16
    · unfold remap reparts; rw [parts_two h2]; simp [hp]
    · by_cases h3 : n.op = 18
      · unfold remap reparts; rw [parts_three h3]; simp [hp]
      · unfold remap reparts; rw [parts_none h1 h2 h3]; simp
theorem X_prune {l : List Nd} (hT : termOk l = true) : ∀ x, x < l.length → flag (reachL l) x = true → X (pruneL l) (pl l x) = X l x := by
  intro x
  induction x using Nat.strongRecOn with
  | ind x ih =>
    intro hx hf
    have hD := down_of hT
    have hDp := down_of (prune_term hT)
    refine X_same hD hDp hx (pl_lt hT hx hf) (is := (parts (nth l x)).map fun q => (plc l q).toNat) (by simp) (by rw [prune_nth hT hx hf]; exact remap_reparts l _) ?_
    rw [List.map_map]
    apply List.map_congr_left
    intro p hp
    have h1 := hD x hx p hp
    have h2 := reach_closed hD hx hf hp
    have h3 := ih p.toNat (by omega) (by omega) h2
    have h4 := plc_pl l p.toNat
    rw [Int.toNat_of_nonneg h1.1] at h4
    simp only [Function.comp]
    rw [h4, Int.toNat_natCast]
    exact h3
theorem show_prune {l : List Nd} (hT : termOk l = true) : showL (pruneL l) = showL l := by
  rw [show_X (prune_term hT), show_X hT, ← (prune_root hT).1]
  exact X_prune hT _ (by have := term_len hT; omega) (reach_root (by have := term_len hT; omega))

theorem sum_erase {α : Type} [DecidableEq α] (f : α → Int) {x : α} : ∀ (b : List α), x ∈ b → (b.map f).sum = f x + ((b.erase x).map f).sum := by
  intro b
  induction b with
  | nil => intro h; cases h
  | cons y b ih =>
    intro h
    by_cases e : y = x
    · subst e
      rw [List.erase_cons_head]
      simp
    · have hx : x ∈ b := by
        rcases List.mem_cons.1 h with e' | e'
        · exact absurd e'.symm e
        · exact e'
      rw [List.erase_cons_tail (by simpa using e)]
      simp only [List.map_cons, List.sum_cons]
      rw [ih hx]
      omega
theorem sum_le_of_inj {α : Type} [DecidableEq α] (f : α → Int) : ∀ (a b : List α), a.Nodup → (∀ x ∈ a, x ∈ b) → (∀ x ∈ b, 0 ≤ f x) → (a.map f).sum ≤ (b.map f).sum := by
  intro a
  induction a with
  | nil =>
    intro b _ _ h0
    induction b with
    | nil => exact Int.le_refl _
    | cons y b ihb =>
      have h1 := h0 y (by simp)
      have h2 := ihb (by simp) (fun x hx => h0 x (by simp [hx]))
      simp only [List.map_nil, List.sum_nil, List.map_cons, List.sum_cons] at h2 ⊢
      omega
  | cons x a ih =>
    intro b hn hs h0
    have hx : x ∈ b := hs x (by simp)
    have hn' := List.nodup_cons.1 hn
    have h1 := ih (b.erase x) hn'.2 (fun y hy => by
      have hne : y ≠ x := by intro e; subst e; exact hn'.1 hy
      exact (List.mem_erase_of_ne hne).2 (hs y (by simp [hy]))) (fun y hy => h0 y (List.mem_of_mem_erase hy))
    have h2 := sum_erase f b hx
    rw [h2]
    simp only [List.map_cons, List.sum_cons]
    omega
/-- The bits of a tree's own quantifier. -/
def bT : Tr → Int
  | .one op _ _ b _ => if quant op then b else 0
  | _ => 0
theorem bT_at {l : List Nd} (hD : Down l) {i : Nat} (hi : i < l.length) : bT (tr l i) = if quant (nth l i).op then (nth l i).b else 0 := by
  rw [tr_at hD hi]
  generalize nth l i = n
  by_cases h1 : n.op = 2 ∨ n.op = 17 ∨ n.op = 19 ∨ n.op = 20
  · rw [mk_one h1]; rfl
  · have hq : quant n.op = false := by
      unfold quant
      simp only [Bool.or_eq_false_iff, beq_eq_false_iff_ne]
      exact ⟨fun e => h1 (by omega), fun e => h1 (by omega)⟩
    rw [hq]
    by_cases h2 : 3 ≤ n.op ∧ n.op ≤ 16
    · rw [mk_two h2]; rfl
    · by_cases h3 : n.op = 18
      · rw [mk_three h3]; rfl
      · rw [mk_leaf h1 h2 h3]; rfl
theorem bT_pos {x : Tr} (h : Rt x) : 0 ≤ bT x := by
  cases x with
  | one op w k b x =>
    obtain ⟨_, _, _, h⟩ := h
    show 0 ≤ if quant op then b else 0
    split
    · rename_i hq
      rcases h with ⟨rfl, _⟩ | ⟨rfl, _⟩ | ⟨_, _, _, _, _, h, _⟩
      · cases hq
      · cases hq
      · omega
    · exact Int.le_refl _
  | leaf _ _ _ => exact Int.le_refl _
  | two _ _ _ _ => exact Int.le_refl _
  | three _ _ _ _ _ => exact Int.le_refl _
theorem bits_le {l : List Nd} (hT : termOk l = true) : ∀ k, k ≤ l.length → bitsTo l k ≤ ((List.range k).map fun i => bT (tr l i)).sum := by
  intro k
  induction k with
  | zero => intro _; exact Int.le_refl _
  | succ k ih =>
    intro hk
    have h1 := ih (by omega)
    have h2 := bT_pos (rt_all (down_of hT) (fun k hk => term_node hT hk) k (by omega)).1
    have h3 := bT_at (down_of hT) (i := k) (by omega)
    rw [List.range_succ, List.map_append, List.sum_append]
    simp only [bitsTo, List.map_cons, List.map_nil, List.sum_cons, List.sum_nil]
    cases hf : flag (reachL l) k
    · simp only [Bool.false_and, Bool.false_eq_true, if_false]; omega
    · simp only [Bool.true_and]
      rw [h3] at h2 ⊢
      split
      · omega
      · omega
theorem bits_all {l : List Nd} (hT : termOk l = true) (hR : ∀ j, j < l.length → flag (reachL l) j = true) : ∀ k, k ≤ l.length → bitsTo l k = ((List.range k).map fun i => bT (tr l i)).sum := by
  intro k
  induction k with
  | zero => intro _; rfl
  | succ k ih =>
    intro hk
    have h1 := ih (by omega)
    have h3 := bT_at (down_of hT) (i := k) (by omega)
    rw [List.range_succ, List.map_append, List.sum_append]
    simp only [bitsTo, List.map_cons, List.map_nil, List.sum_cons, List.sum_nil]
    rw [hR k (by omega), h3, ← h1]
    simp only [Bool.true_and]
    split <;> omega
/-- A list read of a term's text has no more bits. -/
theorem bits_emb {p u : List Nd} (hP : termOk p = true) (hR : ∀ j, j < p.length → flag (reachL p) j = true) (hU : termOk u = true) (hG : Neat u) (hE : Emb p u) : bitsTo u u.length ≤ bitsTo p p.length := by
  classical
  rw [bits_all hP hR p.length (Nat.le_refl _)]
  refine Int.le_trans (bits_le hU u.length (Nat.le_refl _)) ?_
  have h := sum_le_of_inj (α := List UInt8 × Tr) (fun x => bT x.2) ((List.range u.length).map fun j => (X u j, tr u j)) ((List.range p.length).map fun i => (X p i, tr p i)) (by
    rw [List.nodup_iff_pairwise_ne, List.pairwise_map]
    refine List.Pairwise.imp_of_mem ?_ (List.nodup_range (n := u.length))
    intro a b ha hb hab e
    exact hab (text_inj hG (List.mem_range.1 ha) (List.mem_range.1 hb) (hE a (List.mem_range.1 ha)).1 (congrArg Prod.fst e))) (by
    intro x hx
    obtain ⟨j, hj, rfl⟩ := List.mem_map.1 hx
    obtain ⟨i, hi, e1, e2⟩ := (hE j (List.mem_range.1 hj)).2
    exact List.mem_map.2 ⟨i, List.mem_range.2 hi, by rw [e1, e2]⟩) (by
    intro x hx
    obtain ⟨i, hi, rfl⟩ := List.mem_map.1 hx
    exact bT_pos (rt_all (down_of hP) (fun k hk => term_node hP hk) i (List.mem_range.1 hi)).1)
  rw [List.map_map, List.map_map] at h
  exact h
theorem value_parts {l : List Nd} {e : List Int} {x : Int} : valueL l e = some x ↔ termOk l = true ∧ e.length = 8 ∧ bitsTo l l.length ≤ 12 ∧ fitT (root l) e = true ∧ vT (root l) e = x := by
  unfold valueL
  split
  · rename_i hc
    simp only [Bool.and_eq_true, decide_eq_true_eq] at hc
    constructor
    · intro h; cases h; exact ⟨hc.1.1.1, hc.1.1.2, hc.1.2, hc.2, rfl⟩
    · intro h; rw [h.2.2.2.2]
  · rename_i hc
    simp only [Bool.and_eq_true, decide_eq_true_eq] at hc
    constructor
    · intro h; cases h
    · intro h; exact absurd ⟨⟨⟨h.1, h.2.1⟩, h.2.2.1⟩, h.2.2.2.1⟩ hc
/-- A term's canonical form is worth what it is worth. -/
theorem value_canon {l : List Nd} {e : List Int} {x : Int} (h : valueL l e = some x) (hc : canonL l ≠ []) : valueL (canonL l) e = some x := by
  obtain ⟨hT, he, hb, hf, hv⟩ := value_parts.1 h
  have hS : showL l ≠ [] := by
    intro e0
    refine hc ?_
    unfold canonL
    rw [if_pos (by rw [e0]; rfl)]
  have hP := prune_term hT
  have hSp : showL (pruneL l) ≠ [] := by rw [show_prune hT]; exact hS
  obtain ⟨u, h1, h2, h3, hG, hE, hr⟩ := canon_tree hP hSp
  have hu : canonL l = u := by
    unfold canonL
    rw [if_neg (fun e0 => hS (List.eq_nil_of_length_eq_zero e0)), ← show_prune hT, h1]
  have hroot : root u = root l := by
    rw [← root_prune hT]; exact hr
  rw [hu]
  refine value_parts.2 ⟨h2, he, ?_, by rw [hroot]; exact hf, by rw [hroot]; exact hv⟩
  have hb1 := bits_emb hP (fun j hj => prune_reach hT hj) h2 hG hE
  have hb2 : bitsTo (pruneL l) (pruneL l).length = bitsTo l l.length := by
    rw [prune_len hT]; exact bits_pl hT l.length (Nat.le_refl _)
  omega

end Go.Proofs.Ytnkkigoeffghdaa.Vl3
