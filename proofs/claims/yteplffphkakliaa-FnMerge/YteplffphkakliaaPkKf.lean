/- Small texts of mine, one behind the other. -/
import Derived.Maps.AppendAt
import Derived.Deep.RegionHeld
import Derived.Test.YteplffphkakliaaRows
import Derived.Laws.MakeOwn
import Derived.Deep.AppendLies
import Derived.OwnWalk
import Derived.Test.YteplffphkakliaaAp1
import Derived.Test.YteplffphkakliaaNd0
/- Flags of another list appended, at a step of a region that draws its order. -/
namespace Go.Proofs.Yteplffphkakliaa.Ap11
open Go.RowKit
open Nd0 Ap1
set_option linter.unusedVariables false

def bv (l : List Bool) : List Value := l.map fun x => .bool x
theorem bv_len (l : List Bool) : (bv l).length = l.length := by simp [bv]
theorem one_b (l : List Bool) : ∀ u ∈ bv l, u.oneCell' = true := by
  intro u hu
  obtain ⟨n, _, rfl⟩ := List.mem_map.1 hu
  rfl
theorem step_bs {ops : Array Oper} {o : Oper} {a : Act} {K : Act → World → Prop} {Q : Exit → Act → World → Prop} {E : Prop} (W : World) (hgd : o.guard = none) (s x : Operand)
    (ho : o.op = .call { callee := .builtin .append, args := #[s, x], argTypes := #[24, 24] })
    (B g cp gx ox cx : Nat) (l ys : List Bool) (hs : a.eval s = .slice (some ⟨g, 0, none⟩) l.length cp) (hx : a.eval x = .slice (some ⟨gx, ox, none⟩) ys.length cx)
    (hown : Owb W B (.slice (some ⟨g, 0, none⟩) l.length cp) l) (hy : ∀ j (h : j < ys.length), W.cell? ⟨gx, ox + j, none⟩ = some (.bool ys[j])) (hB : B ≤ W.heap.size) (hlen : l.length + ys.length ≤ 1048577) (L : List Bool) (hL : l ++ ys = L)
    (h : ∀ g' cp' w', Owb w' B (.slice (some ⟨g', 0, none⟩) L.length cp') L → Kept (fun k => k = g) W w' → (g' = g ∨ W.heap.size ≤ g') → K (a.put o.dst (.slice (some ⟨g', 0, none⟩) L.length cp')) w') :
    if Region.wanted o (yielded ops a.tmps) = true then Oper.wp Try.prog o a W K Q else E := by
  subst hL
  have hw : Region.wanted o (yielded ops a.tmps) = true := by simp [Region.wanted, hgd]
  rw [if_pos hw]
  obtain ⟨i, hi, hzz⟩ := Option.map_eq_some_iff.1 infoBool
  simp only [Prod.mk.injEq] at hzz
  obtain ⟨hz, hsz, hb⟩ := hzz
  obtain ⟨v', w', hr, h1, h2, h3, h4⟩ := run_append_own_at (P := Try.prog) W B 24 o.type 4 i _ 1 1 Try.underlying24 hi hz hsz hb rfl (by omega) _ l.length (bv l) hown ⟨gx, ox, none⟩ ys.length cx (bv ys) (by rw [bv_len]; omega) (fun j u hu => by
    have hj : j < ys.length := by have := (List.getElem?_eq_some_iff.1 hu).1; rw [bv_len] at this; exact this
    have hadd : (⟨gx, ox, none⟩ : Addr).add j = ⟨gx, ox + j, none⟩ := by unfold Addr.add; split <;> simp_all
    rw [hadd, hy j hj, ← hu]
    simp [bv, hj]) (one_b ys) (by unfold maxLen; omega) (by omega) hB
  have h5 : Owb w' B v' (l ++ ys) := by unfold Owb; rw [List.map_append, List.length_append]; exact h1
  have h6 : ∃ g' cp', v' = .slice (some ⟨g', 0, none⟩) (l ++ ys).length cp' := by
    rcases h5.2 with ⟨h0, _⟩ | ⟨g', cap', cur, he, _⟩
    · exact absurd (h3.1 h0).1 (by simp)
    · exact ⟨g', cap', he⟩
  obtain ⟨g', cp', rfl⟩ := h6
  have hK := h g' cp' w' h5 ⟨h2.os, h2.tape, h2.output, h2.size, fun k hk hn => h2.block k hk (fun e => hn (by simpa [Value.ownBlock] using e))⟩ (by
    rcases h4 with e | e
    · exact .inl (by simpa [Value.ownBlock] using e)
    · exact .inr (by have e' : g' = W.heap.size := (by simpa [Value.ownBlock] using e); omega))
  unfold Oper.wp execOp
  simp only [ho, resolve, invoke, builtin, Sem.run_bind, Sem.run_pure, Result.andThen_ok, List.map_toArray, List.map_cons, List.map_nil, hs, hx, hr]
  exact hK

end Go.Proofs.Yteplffphkakliaa.Ap11

/- Lists of whole numbers that are appended to. -/
namespace Go.Proofs.Yteplffphkakliaa.Wv2
open Go.RowKit
open Nd0
set_option linter.unusedVariables false

theorem infoI : (Try.prog.info? 3).map (fun i => (i.zero, i.size, i.bytes)) = some (some (.int .i64 0), 1, 8) := by kernel_rfl
def iv (l : List Nat) : List Value := l.map fun (x : Nat) => Value.int .i64 (x : Int)
theorem iv_len (l : List Nat) : (iv l).length = l.length := by simp [iv]
def OwI (w : World) (B : Nat) (v : Value) (l : List Nat) : Prop := w.ownsRow B 3 1 v l.length (iv l)
theorem OwI.lt {w : World} {B : Nat} {v : Value} {l : List Nat} (h : OwI w B v l) : ∀ k, v.ownBlock = some k → B ≤ k ∧ k < w.heap.size := World.ownsRow.lt h
theorem OwI.kept {w w' : World} {B : Nat} {v : Value} {l : List Nat} (h : OwI w B v l) {S : Nat → Prop} (k : Kept S w w') (hs : ∀ i, v.ownBlock = some i → ¬ S i) : OwI w' B v l := by
  refine ⟨h.1, ?_⟩
  rcases h.2 with hn | ⟨g, cap, cur, rfl, hb, hgg, rest⟩
  · exact .inl hn
  · refine .inr ⟨g, cap, cur, rfl, hb, ?_, rest⟩
    rw [k.block g (Array.getElem?_eq_some_iff.1 hgg).1 (hs g rfl)]
    exact hgg
theorem OwI.cell {w : World} {B g n cap : Nat} {l : List Nat} (h : OwI w B (.slice (some ⟨g, 0, none⟩) n cap) l) (j : Nat) (hj : j < l.length) : w.cell? ⟨g, j, none⟩ = some (.int .i64 ((l[j] : Nat) : Int)) := by
  obtain ⟨h1, h2⟩ := h
  rcases h2 with ⟨e, _⟩ | ⟨g', cap', cur, e, hb, hg, hn, hm, hs, ht⟩
  · cases e
  · cases e
    rw [cell_of_row w _ j cur _ _ hg]
    have h3 : cur[j]? = (iv l)[j]? := by
      rw [← ht, List.getElem?_take_of_lt (by omega)]
      simp
    rw [h3]
    simp [iv, hj]
/-- Words that lie in memory. -/
def Is (w : World) (gx ox : Nat) (l : List Nat) : Prop := ∀ j (h : j < l.length), w.cell? ⟨gx, ox + j, none⟩ = some (.int .i64 ((l[j] : Nat) : Int))
theorem Is.kept {w w' : World} {gx ox : Nat} {l : List Nat} (h : Is w gx ox l) {S : Nat → Prop} (k : Kept S w w') (hs : ¬ S gx) : Is w' gx ox l := fun j hj => by
  rw [k.cell (p := ⟨gx, ox + j, none⟩) (lt_of_cell (p := ⟨gx, ox + j, none⟩) (h j hj)) hs]; exact h j hj
theorem OwI.us {w : World} {B g n cap : Nat} {l : List Nat} (h : OwI w B (.slice (some ⟨g, 0, none⟩) n cap) l) : Is w g 0 l := fun j hj => by rw [Nat.zero_add]; exact h.cell j hj
theorem OwI.lit (w : World) (B : Nat) (hB : B ≤ w.heap.size) : OwI (w.alloc (.cells #[] 3)) B (.slice (some ⟨w.heap.size, 0, none⟩) 0 0) [] :=
  World.ownsRow_lit w #[] 0 hB (Nat.zero_le _) rfl
theorem OwI.one (w : World) (B : Nat) (x : Nat) (hB : B ≤ w.heap.size) : OwI (w.alloc (.cells #[.int .i64 (x : Int)] 3)) B (.slice (some ⟨w.heap.size, 0, none⟩) 1 1) [x] :=
  World.ownsRow_lit w #[.int .i64 (x : Int)] 1 hB (by unfold maxLen; omega) rfl
theorem one_i (l : List Nat) : ∀ u ∈ iv l, u.oneCell' = true := by
  intro u hu
  obtain ⟨n, _, rfl⟩ := List.mem_map.1 hu
  rfl
/-- Words more (or none), at the list of a plain region. -/
theorem app_is {ops : Array Oper} {rest : List Oper} {o : Oper} {a : Act} {Q : Exit → Act → World → Prop} (W : World) (hgd : o.guard = none) (s x : Operand)
    (ho : o.op = .call { callee := .builtin .append, args := #[s, x], argTypes := #[31, 31] })
    (B g cap gx ox cx : Nat) (l ys : List Nat) (hs : a.eval s = .slice (some ⟨g, 0, none⟩) l.length cap) (hx : a.eval x = .slice (some ⟨gx, ox, none⟩) ys.length cx)
    (hown : OwI W B (.slice (some ⟨g, 0, none⟩) l.length cap) l) (hy : Is W gx ox ys) (hB : B ≤ W.heap.size) (hlen : l.length + ys.length ≤ 1048577) (L : List Nat) (hL : l ++ ys = L)
    (h : ∀ g' cp w', OwI w' B (.slice (some ⟨g', 0, none⟩) L.length cp) L → Kept (fun k => k = g) W w' → (g' = g ∨ W.heap.size ≤ g') → wpList Try.prog ops Q rest (a.put o.dst (.slice (some ⟨g', 0, none⟩) L.length cp)) w') :
    wpList Try.prog ops Q (o :: rest) a W := by
  subst hL
  obtain ⟨i, hi, hzz⟩ := Option.map_eq_some_iff.1 infoI
  simp only [Prod.mk.injEq] at hzz
  obtain ⟨hz, hsz, hb⟩ := hzz
  refine wpList_append_own_at (w := W) hgd s x 31 ho B 3 i _ 1 8 Try.underlying31 hi hz hsz hb rfl (by omega) _ l.length (iv l) hs hown
    ⟨gx, ox, none⟩ ys.length cx (iv ys) hx (by rw [iv_len]; omega) (fun j u hu => ?_) (one_i ys) (by unfold maxLen; omega) (by omega) hB ?_
  · have hj : j < ys.length := by have := (List.getElem?_eq_some_iff.1 hu).1; rw [iv_len] at this; exact this
    have hadd : (⟨gx, ox, none⟩ : Addr).add j = ⟨gx, ox + j, none⟩ := by unfold Addr.add; split <;> simp_all
    rw [hadd, hy j hj, ← hu]
    simp [iv, hj]
  · intro v' w' h1 h2 h3 h4
    have h5 : OwI w' B v' (l ++ ys) := by unfold OwI; rw [iv, List.map_append, List.length_append]; exact h1
    have h6 : ∃ g' cp, v' = .slice (some ⟨g', 0, none⟩) (l ++ ys).length cp := by
      rcases h5.2 with ⟨h0, _⟩ | ⟨g', cap', cur, he, _⟩
      · exact absurd (h3.1 h0).1 (by simp)
      · exact ⟨g', cap', he⟩
    obtain ⟨g', cp, rfl⟩ := h6
    refine h g' cp w' h5 ⟨h2.os, h2.tape, h2.output, h2.size, fun k hk hn => h2.block k hk (fun e => hn (by simpa [Value.ownBlock] using e))⟩ ?_
    rcases h4 with e | e
    · exact .inl (by simpa [Value.ownBlock] using e)
    · exact .inr (by have e' : g' = W.heap.size := (by simpa [Value.ownBlock] using e); omega)
/-- One word more, at a step of a region that draws its order. -/
theorem step_i {ops : Array Oper} {o : Oper} {a : Act} {K : Act → World → Prop} {Q : Exit → Act → World → Prop} {E : Prop} (W : World) (hgd : o.guard = none) (s x : Operand)
    (ho : o.op = .call { callee := .builtin .append, args := #[s, x], argTypes := #[31, 31] })
    (B : Nat) (v : Value) (l : List Nat) (y : Nat) (hs : a.eval s = v) (G : Nat) (hx : a.eval x = .slice (some ⟨G, 0, none⟩) 1 1) (hy : W.cell? ⟨G, 0, none⟩ = some (.int .i64 (y : Int)))
    (hown : OwI W B v l) (hB : B ≤ W.heap.size) (hlen : l.length ≤ 1048576) (L : List Nat) (hL : l ++ [y] = L)
    (h : ∀ g cap w', OwI w' B (.slice (some ⟨g, 0, none⟩) L.length cap) L → Kept (fun k => v.ownBlock = some k) W w' → (v.ownBlock = some g ∨ W.heap.size ≤ g) → K (a.put o.dst (.slice (some ⟨g, 0, none⟩) L.length cap)) w') :
    if Region.wanted o (yielded ops a.tmps) = true then Oper.wp Try.prog o a W K Q else E := by
  subst hL
  obtain ⟨i, hi, hzz⟩ := Option.map_eq_some_iff.1 infoI
  simp only [Prod.mk.injEq] at hzz
  obtain ⟨hz, hsz, hb⟩ := hzz
  refine step_append_lies W hgd s x 31 ho B 3 i _ 1 8 Try.underlying31 hi hz hsz hb rfl (by omega) v l.length (iv l) hs hown
    ⟨G, 0, none⟩ 1 1 (iv [y]) hx rfl ?_ (one_i _) (by omega) (by unfold maxLen; omega) (by omega) hB _ rfl ?_
  · intro j u hu
    have hj : j < 1 := (List.getElem?_eq_some_iff.1 hu).1
    have hadd : (⟨G, 0, none⟩ : Addr).add j = ⟨G, j, none⟩ := by unfold Addr.add; split <;> simp_all
    rw [hadd]
    match j, hj with
    | 0, _ => rw [hy]; exact hu
  · intro g cap w' h1 h2 h3 h4
    rw [List.length_append] at h
    refine h g cap w' ?_ ?_ ?_
    · unfold OwI
      rw [iv, List.map_append, List.length_append]
      exact h1
    · exact ⟨h2.os, h2.tape, h2.output, h2.size, fun k hk hn => h2.block k hk (fun e => hn e.symm)⟩
    · rcases h3 with h3 | h3
      · exact .inl h3
      · exact .inr (by rw [h3]; exact Nat.le_refl _)

end Go.Proofs.Yteplffphkakliaa.Wv2
