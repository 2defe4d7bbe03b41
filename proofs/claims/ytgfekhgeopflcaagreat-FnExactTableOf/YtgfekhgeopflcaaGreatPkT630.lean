/- Small texts of mine, one behind the other. -/
import Derived.Test.YtgfekhgeopflcaaGreatPkT629
import Derived.Test.YtgfekhgeopflcaaGreatPkT67
import Derived.Test.YtgfekhgeopflcaaGreatPkT613
/- Which widths each variable wants: the program's rows, of the reached nodes alone, as plain data. -/
namespace Go.Proofs.YtgfekhgeopflcaaGreat.Vm3
open Go.RowKit
open Nd0 Pl1 Tm0 Tm1 Tm2 Tm5 Tm6 Tm8 Tr0 Rw0 Vl1 Vl2 Vm0 Vm1 Sv5
set_option linter.unusedVariables false

/-- Place i is reached, and one of the first m of these. -/
def doneB (l : List Nd) (m i : Nat) : Bool := flag (reachL l) i && decide ((reachTo l i).length < m)
theorem done_zero (l : List Nd) (i : Nat) : doneB l 0 i = false := by simp [doneB]
/-- The place that comes next. -/
structure Next (l : List Nd) (m x : Nat) : Prop where
  lt : x < l.length
  fl : flag (reachL l) x = true
  rank : (reachTo l x).length = m
theorem Next.not {l : List Nd} {m x : Nat} (h : Next l m x) : doneB l m x = false := by
  unfold doneB; rw [h.rank]; simp
theorem Next.succ {l : List Nd} {m x : Nat} (h : Next l m x) (i : Nat) : doneB l (m + 1) i = (doneB l m i || decide (i = x)) := by
  by_cases e : i = x
  · subst e
    unfold doneB; rw [h.rank, h.fl]; simp
  · rw [decide_eq_false e, Bool.or_false]
    unfold doneB
    cases hf : flag (reachL l) i with
    | false => rfl
    | true =>
      rw [Bool.true_and, Bool.true_and]
      have hne : (reachTo l i).length ≠ m := fun h2 => e (reachTo_inj l hf h.fl (h2.trans h.rank.symm))
      exact decide_eq_decide.2 (by omega)
theorem Next.part {l : List Nd} {m x : Nat} (h : Next l m x) (hD : Down l) {p : Int} (hp : p ∈ parts (nth l x)) : doneB l m p.toNat = true ∧ 0 ≤ p ∧ p.toNat < x := by
  have hf := reach_closed hD h.lt h.fl hp
  have hd := hD x h.lt p hp
  have hl : p.toNat < x := by omega
  have := reachTo_lt l hl hf
  rw [h.rank] at this
  unfold doneB
  rw [hf]
  exact ⟨by simpa using this, hd.1, hl⟩
theorem done_root {l : List Nd} (h : 1 ≤ l.length) : doneB l (reachTo l l.length).length (l.length - 1) = true := by
  have hf := reach_root h
  have := reachTo_lt l (a := l.length - 1) (b := l.length) (by omega) hf
  unfold doneB
  rw [hf]
  simpa using this

/-- Rows of eight, one a node, in one block. -/
def R2 (F : Nat → Nat → Nat) : Nat → Value := fun j => .int .u16 ((F (j / 8) (j % 8) : Nat) : Int)
def put (F : Nat → Nat → Nat) (x v z : Nat) : Nat → Nat → Nat := fun i u => if i = x ∧ u = v then z else F i u
theorem row_at {w : World} {g : Nat} {F : Nat → Nat → Nat} (h : Row w g 640 (R2 F)) {x v : Nat} (hx : x < 80) (hv : v < 8) : w.cell? ⟨g, x * 8 + v, none⟩ = some (.int .u16 ((F x v : Nat) : Int)) ∧ w.frozen? ⟨g, x * 8 + v, none⟩ = false := by
  have h2 := h (x * 8 + v) (by omega)
  unfold R2 at h2
  rw [show (x * 8 + v) / 8 = x by omega, show (x * 8 + v) % 8 = v by omega] at h2
  exact h2
theorem row_put {w : World} {g : Nat} {F : Nat → Nat → Nat} (h : Row w g 640 (R2 F)) {x v : Nat} (hx : x < 80) (hv : v < 8) (z : Nat) : Row (w.setCell ⟨g, x * 8 + v, none⟩ (.int .u16 ((z : Nat) : Int))) g 640 (R2 (put F x v z)) := by
  refine (h.set (p := x * 8 + v) (by omega) _).congr (fun j hj => ?_)
  unfold R2 put
  by_cases e : j = x * 8 + v
  · rw [if_pos e, if_pos (by omega)]
  · rw [if_neg e, if_neg (by omega)]
theorem row_congr {w : World} {g : Nat} {F F' : Nat → Nat → Nat} (h : Row w g 640 (R2 F)) (e : ∀ i u, u < 8 → F i u = F' i u) : Row w g 640 (R2 F') := h.congr (fun j hj => by
  unfold R2
  rw [e _ _ (by omega)])

/-- The rows with m nodes worked out. -/
def stage (l : List Nd) (m : Nat) : Nat → Nat → Nat := fun i u => if doneB l m i then rowV l (nth l i) u else 0
/-- And in the next one, x, the first d parts taken in, of the part behind them the first v variables. -/
def mid (l : List Nd) (m x d v : Nat) : Nat → Nat → Nat := fun i u => if i = x then (if u < v then preN l (nth l x) u (d + 1) else preN l (nth l x) u d) else stage l m i u
theorem mid_step (l : List Nd) (m x d v : Nat) : ∀ i u, put (mid l m x d v) x v (preN l (nth l x) v (d + 1)) i u = mid l m x d (v + 1) i u := by
  intro i u
  unfold put mid
  by_cases hi : i = x
  · by_cases hu : u = v
    · rw [if_pos ⟨hi, hu⟩, if_pos hi, if_pos (by omega), hu]
    · rw [if_neg (fun h => hu h.2), if_pos hi, if_pos hi]
      by_cases h2 : u < v
      · rw [if_pos h2, if_pos (by omega)]
      · rw [if_neg h2, if_neg (by omega)]
  · rw [if_neg (fun h => hi h.1), if_neg hi, if_neg hi]
theorem mid_next (l : List Nd) (m x d : Nat) : ∀ i u, u < 8 → mid l m x d 8 i u = mid l m x (d + 1) 0 i u := by
  intro i u hu
  unfold mid
  by_cases hi : i = x
  · rw [if_pos hi, if_pos hi, if_pos hu, if_neg (by omega)]
  · rw [if_neg hi, if_neg hi]
theorem mid_at (l : List Nd) (m x d u : Nat) : mid l m x d 0 x u = preN l (nth l x) u d := by
  unfold mid; rw [if_pos rfl, if_neg (by omega)]
theorem mid_ne (l : List Nd) {m x d v i : Nat} (u : Nat) (h : ¬ i = x) : mid l m x d v i u = stage l m i u := by
  unfold mid; rw [if_neg h]
theorem stage_x {l : List Nd} {m x : Nat} (hX : Next l m x) (u : Nat) : stage l m x u = 0 := by
  unfold stage; rw [hX.not]; rfl
/-- At a variable its own width is put in first. -/
theorem mid_var {l : List Nd} {m x : Nat} (hX : Next l m x) (h1 : (nth l x).op = 1) (hk : 0 ≤ (nth l x).k) : ∀ i u, put (stage l m) x (nth l x).k.toNat (2 ^ (nth l x).w.toNat) i u = mid l m x 0 0 i u := by
  intro i u
  by_cases hi : i = x
  · subst hi
    rw [mid_at]
    unfold put
    show _ = if _ then _ else _
    by_cases hu : u = (nth l i).k.toNat
    · rw [if_pos ⟨rfl, hu⟩, if_pos ⟨h1, by omega⟩]
    · rw [if_neg (fun h => hu h.2), if_neg (fun h => hu (by omega)), stage_x hX]
  · rw [mid_ne l u hi]
    unfold put
    rw [if_neg (fun h => hi h.1)]
theorem mid_other {l : List Nd} {m x : Nat} (hX : Next l m x) (h1 : ¬ (nth l x).op = 1) : ∀ i u, stage l m i u = mid l m x 0 0 i u := by
  intro i u
  by_cases hi : i = x
  · subst hi
    rw [mid_at, stage_x hX]
    show _ = if _ then _ else _
    rw [if_neg (fun h => h1 h.1)]
  · rw [mid_ne l u hi]
/-- The node is worked out: no quantifier. -/
theorem mid_end {l : List Nd} {m x : Nat} (hX : Next l m x) (hq : quant (nth l x).op = false) : ∀ i u, mid l m x (parts (nth l x)).length 0 i u = stage l (m + 1) i u := by
  intro i u
  by_cases hi : i = x
  · subst hi
    rw [mid_at]
    unfold stage
    rw [hX.succ i, decide_eq_true rfl, Bool.or_true, if_pos rfl]
    unfold rowV
    rw [if_neg (by rw [hq]; simp)]; rfl
  · rw [mid_ne l u hi]
    unfold stage
    rw [hX.succ i, decide_eq_false hi, Bool.or_false]
theorem mid_quant {l : List Nd} {m x : Nat} (hX : Next l m x) (hq : quant (nth l x).op = true) (hk : 0 ≤ (nth l x).k) : ∀ i u, put (mid l m x (parts (nth l x)).length 0) x (nth l x).k.toNat 0 i u = stage l (m + 1) i u := by
  intro i u
  by_cases hi : i = x
  · subst hi
    unfold put stage
    rw [hX.succ i, decide_eq_true rfl, Bool.or_true]
    by_cases hu : u = (nth l i).k.toNat
    · rw [if_pos ⟨rfl, hu⟩, if_pos rfl]
      unfold rowV
      rw [if_pos ⟨hq, by omega⟩]
    · rw [if_neg (fun h => hu h.2), mid_at, if_pos rfl]
      unfold rowV
      rw [if_neg (fun h => hu (by omega))]; rfl
  · unfold put
    rw [if_neg (fun h => hi h.1), mid_ne l u hi]
    unfold stage
    rw [hX.succ i, decide_eq_false hi, Bool.or_false]

/-- All that are worked out have rows. -/
def Goods (l : List Nd) (m : Nat) : Prop := ∀ i, i < l.length → doneB l m i = true → Sv5.Good l i
theorem goods_next {l : List Nd} (hT : termOk l = true) {m x : Nat} (hX : Next l m x) (hG : Goods l m) (hb : badQ l (nth l x) = false) (hk : quant (nth l x).op = true → 0 ≤ (nth l x).k) : Goods l (m + 1) := by
  intro i hi hd
  rw [hX.succ i] at hd
  by_cases e : i = x
  · subst e
    exact need_some (down_of hT) hi (fun p hp => by
      obtain ⟨h1, h2, h3⟩ := hX.part (down_of hT) hp
      exact (hG p.toNat (by omega) h1).some) hb hk
  · rw [decide_eq_false e, Bool.or_false] at hd
    exact hG i hi hd
theorem bad_none {l : List Nd} (hT : termOk l = true) {m x : Nat} (hX : Next l m x) (hG : Goods l m) (hb : badQ l (nth l x) = true) : needT (root l) = none := by
  refine root_none (down_of hT) (l.length - x - 1) x (by have := hX.lt; omega) hX.fl ?_
  exact need_none (down_of hT) hX.lt (fun p hp => by
    obtain ⟨h1, h2, h3⟩ := hX.part (down_of hT) hp
    exact (hG p.toNat (by have := hX.lt; omega) h1).some) hb
/-- What is taken in from a part is its row. -/
theorem pre_step {l : List Nd} (hT : termOk l = true) {m x : Nat} (hX : Next l m x) (hG : Goods l m) {d : Nat} (hd : d < (parts (nth l x)).length) {v : Nat} (hv : v < 8) :
    preN l (nth l x) v (d + 1) = preN l (nth l x) v d ||| stage l m ((parts (nth l x))[d]).toNat v := by
  obtain ⟨h1, h2, h3⟩ := hX.part (down_of hT) (List.getElem_mem hd)
  have e : (parts (nth l x)).getD d 0 = (parts (nth l x))[d] := by rw [List.getD_eq_getElem?_getD, List.getElem?_eq_getElem hd]; rfl
  show _ ||| _ = _
  rw [e, (hG _ (by have := hX.lt; omega) h1).row hv]
  unfold stage
  rw [if_pos h1]
theorem stage_bd {l : List Nd} (hT : termOk l = true) {m : Nat} (hG : Goods l m) {i v : Nat} (hi : i < l.length) (hv : v < 8) : stage l m i v < 2 ^ 9 := by
  unfold stage
  split
  · rename_i h
    exact (hG i hi h).bd hT hi hv
  · decide
theorem preN_bd {l : List Nd} (hT : termOk l = true) {m x : Nat} (hX : Next l m x) (hG : Goods l m) {v : Nat} (hv : v < 8) : ∀ d, d ≤ (parts (nth l x)).length → preN l (nth l x) v d < 2 ^ 9 := by
  intro d
  induction d with
  | zero =>
    intro _
    have h8 := (node_width (term_node hT hX.lt)).2
    show (if _ then _ else _) < _
    split
    · exact Nat.lt_of_le_of_lt (Nat.pow_le_pow_right (by omega) (show (nth l x).w.toNat ≤ 8 by omega)) (by decide)
    · decide
  | succ d ih =>
    intro hd
    rw [pre_step hT hX hG hd hv]
    obtain ⟨h1, h2, h3⟩ := hX.part (down_of hT) (List.getElem_mem hd)
    exact Nat.or_lt_two_pow (ih (by omega)) (stage_bd hT hG (by have := hX.lt; omega) hv)

end Go.Proofs.YtgfekhgeopflcaaGreat.Vm3

/- The walk of the program's Parts. -/
namespace Go.Proofs.YtgfekhgeopflcaaGreat.Pg2
open Go.RowKit
open Nd0 Tm0 Tm5 Pl1 Ap0 Pg1
open Ws1 (ret_int ret_bool)
set_option linter.unusedVariables false

/-- Some numbers more. -/
theorem app_ints {ops : Array Oper} {rest : List Oper} {o : Oper} {a : Act} {Q : Exit → Act → World → Prop} (W : World) (hgd : o.guard = none) (s x : Operand)
    (ho : o.op = .call { callee := .builtin .append, args := #[s, x], argTypes := #[41, 41] })
    (B : Nat) (v : Value) (l ys : List Int) (g c : Nat) (hs : a.eval s = v) (hx : a.eval x = .slice (some ⟨g, 0, none⟩) ys.length c)
    (hy : ∀ j (h : j < ys.length), W.cell? ⟨g, j, none⟩ = some (.int .i64 ys[j])) (hp : 0 < ys.length)
    (hown : Ows W B v l) (hB : B ≤ W.heap.size) (hlen : l.length + ys.length ≤ 1048577)
    (h : ∀ g cap w', Ows w' B (.slice (some ⟨g, 0, none⟩) (l.length + ys.length) cap) (l ++ ys) → Kept (fun k => v.ownBlock = some k) W w' → wpList Tryz.prog ops Q rest (a.put o.dst (.slice (some ⟨g, 0, none⟩) (l.length + ys.length) cap)) w') :
    wpList Tryz.prog ops Q (o :: rest) a W := by
  obtain ⟨i, hi, hzz⟩ := Option.map_eq_some_iff.1 infoInt
  simp only [Prod.mk.injEq] at hzz
  obtain ⟨hz, hsz, hb⟩ := hzz
  refine wpList_append_lies W hgd s x 41 ho B 3 i (.int .i64 0) 1 8 Tryz.underlying41 hi hz hsz hb rfl (by omega) v l.length (l.map fun x => .int .i64 x) hs hown
    ⟨g, 0, none⟩ ys.length c (ys.map fun x => .int .i64 x) hx (by simp) ?_ ?_ hp (by unfold maxLen; omega) (by omega) hB _ rfl ?_
  · intro j u hu
    have hadd : (⟨g, 0, none⟩ : Addr).add j = ⟨g, j, none⟩ := by unfold Addr.add; split <;> simp_all
    rw [hadd]
    rw [List.getElem?_map] at hu
    obtain ⟨y, hy1, rfl⟩ := Option.map_eq_some_iff.1 hu
    obtain ⟨hj, rfl⟩ := List.getElem?_eq_some_iff.1 hy1
    exact hy j hj
  · intro u hu
    obtain ⟨y, _, rfl⟩ := List.mem_map.1 hu
    rfl
  · intro g cap w' h1 h2 h3 h4
    refine h g cap w' ?_ ?_
    · unfold Ows
      simpa using h1
    · exact ⟨h2.os, h2.tape, h2.output, h2.size, fun k hk hn => h2.block k hk (fun e => hn e.symm)⟩

theorem ows_lit (W : World) (B g : Nat) (hg : g = W.heap.size) (hB : B ≤ g) : Ows (W.alloc (.cells #[] 3)) B (.slice (some ⟨g, 0, none⟩) 0 0) [] := by
  subst hg; exact Ows.lit W B hB

theorem get3 (x y z : Int) (W : World) (g t : Nat) (k : Nat) (hk : k ≤ 3) (hg : g = W.heap.size) (j : Nat) (h : j < (([x, y, z] : List Int).take k).length) (o : Obj) :
    ((W.alloc (.cells #[.int .i64 x, .int .i64 y, .int .i64 z] t)).alloc o).cell? ⟨g, j, none⟩ = some (.int .i64 (([x, y, z] : List Int).take k)[j]) := by
  subst hg
  rw [World.cell?_alloc_old _ _ _ (by simp), World.cell?_alloc_new]
  have h3 : j < 3 := by simp at h; omega
  rcases j with _ | _ | _ | j
  · simp
  · simp
  · simp
  · omega

set_option maxHeartbeats 1000000 in
theorem iParts (n : Nd) (w : World) :
    Calls Tryz.prog 49 #[.agg #[.int .i64 n.op, .int .i64 n.w, .int .i64 n.k, .int .i64 n.a, .int .i64 n.b, .int .i64 n.c]] w fun e w' => (∃ a c, e = .returned (.slice a (parts n).length c) ∧ WInts w' w.heap.size a (parts n)) ∧ Below w.heap.size w w' := by
  have HP : Hid (parts n = ([n.a, n.b, n.c] : List Int).take (cnt n.op)) := by
    show parts n = _
    unfold parts cnt; split
    · rfl
    · split
      · rfl
      · split <;> rfl
  have hc3 := cnt_le n.op
  by_cases h1 : cnt n.op = 0
  · go_enter Tryz.func49, Tryz.ntmps49
    go_wp2_with (go_at_call 53; refine (iCount _ _).mono ?_; rintro e w' ⟨rfl, rfl⟩; rw [h1])
    go_ret
    rw [HP.out, h1]
    exact ⟨⟨_, _, rfl, Nat.zero_le _, .inl rfl⟩, (((Below.refl _ _).alloc (Nat.le_refl _) _).alloc (by simp) _).alloc (by simp; omega) _⟩
  · obtain ⟨l3, hl3⟩ : ∃ l3 : List Int, l3 = ([n.a, n.b, n.c] : List Int).take (cnt n.op) := ⟨_, rfl⟩
    have HL3 : Hid (l3 = ([n.a, n.b, n.c] : List Int).take (cnt n.op)) := hl3
    have hlen : l3.length = cnt n.op := by rw [hl3, List.length_take]; simp; omega
    have HLN : Hid (l3.length = cnt n.op) := hlen
    have hcz : (cnt n.op : Int) ≤ 3 := by omega
    clear hl3 hlen
    go_enter Tryz.func49, Tryz.ntmps49
    go_wp2_with (first | (go_at_call 53; refine (iCount _ _).mono ?_; rintro e w' ⟨rfl, rfl⟩) | (at_builtin; go_must (refine app_ints _ rfl _ _ rfl w.heap.size (.slice (some ⟨w.heap.size + 1 + 1, 0, none⟩) 0 0) [] l3 (w.heap.size + 1) 3 rfl (by rw [HLN.out]; rfl) (fun j h => by have h9 := HL3.out; subst h9; exact get3 _ _ _ _ _ _ _ hc3 (by simp) _ h _) (by rw [HLN.out]; omega) (ows_lit _ _ _ (by simp) (by omega)) (by simp; omega) (by rw [HLN.out]; simp; omega) ?_; intro g cp w3 ho3 hk3)))
    have HO3 : Hid (Ows w3 w.heap.size (.slice (some ⟨g, 0, none⟩) (([] : List Int).length + l3.length) cp) ([] ++ l3)) := ho3
    have HK3 := hk3.below (B := w.heap.size) (fun k hk => by cases hk; show w.heap.size ≤ w.heap.size + 1 + 1; omega) (by simp; omega)
    have HB3 : Hid (Below w.heap.size w w3) := ((((Below.refl _ _).alloc (Nat.le_refl _) _).alloc (by simp) _).alloc (by simp; omega) _).trans HK3
    clear ho3 hk3 HK3
    go_wp2
    go_ret
    obtain ⟨a9, c9, hv9, hw9⟩ := HO3.out.form
    simp only [List.nil_append, List.length_nil, Nat.zero_add] at hv9 hw9
    rw [HP.out, ← HL3.out]
    cases hv9
    refine ⟨⟨some ⟨g, 0, none⟩, cp, ?_, hw9⟩, HB3.out⟩
    simp

end Go.Proofs.YtgfekhgeopflcaaGreat.Pg2
