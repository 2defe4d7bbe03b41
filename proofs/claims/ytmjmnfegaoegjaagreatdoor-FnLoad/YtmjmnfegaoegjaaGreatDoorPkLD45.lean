/- Small texts of mine, one behind the other. -/
import Derived.Test.YtmjmnfegaoegjaaGreatDoorPkLD44
import Derived.Test.YtmjmnfegaoegjaaGreatDoorPkLD7
import Derived.Test.YtmjmnfegaoegjaaGreatDoorPkLD38
/- The model's words of lines in memory: a list of lists of texts. -/
namespace Go.Proofs.YtmjmnfegaoegjaaGreatDoor.Zw0
open Go.RowKit
open Nd0 (Kept lt_of_cell)
open Tx0
open Ap4 (Ost)
open Mx0 (Mf)
open Ss0 (bs bs_size)
open Ss1 (tl tl_bs bs_tl tl_length numI num_bad_len sNum)
open Ws1 (ret_int)
open Zl2 (int2 wat lns fitW)
open Zl4 (sInt)
set_option linter.unusedVariables false

theorem infoRow : (Tryz.prog.info? 91).map (fun i => (i.zero, i.size, i.bytes)) = some (some (.slice none 0 0), 1, 24) := by kernel_rfl

def Owv (w : World) (B : Nat) (v : Value) (xs : List Value) : Prop := w.ownsRow B 91 1 v xs.length xs
theorem Owv.lit (w : World) (B : Nat) (hB : B ≤ w.heap.size) : Owv (w.alloc (.cells #[] 91)) B (.slice (some ⟨w.heap.size, 0, none⟩) 0 0) [] :=
  World.ownsRow_lit w #[] 0 hB (Nat.zero_le _) rfl
theorem Owv.lt {w : World} {B : Nat} {v : Value} {l : List Value} (h : Owv w B v l) : ∀ k, v.ownBlock = some k → B ≤ k ∧ k < w.heap.size := World.ownsRow.lt h
theorem Owv.kept {w w' : World} {B : Nat} {v : Value} {l : List Value} (h : Owv w B v l) {S : Nat → Prop} (k : Kept S w w') (hs : ∀ i, v.ownBlock = some i → ¬ S i) : Owv w' B v l := by
  refine ⟨h.1, ?_⟩
  rcases h.2 with hn | ⟨g, cap, cur, rfl, hb, hgg, rest⟩
  · exact .inl hn
  · refine .inr ⟨g, cap, cur, rfl, hb, ?_, rest⟩
    rw [k.block g (Array.getElem?_eq_some_iff.1 hgg).1 (hs g rfl)]
    exact hgg
theorem Owv.at {w : World} {B : Nat} {v : Value} {l : List Value} (h : Owv w B v l) (hl : 1 ≤ l.length) : ∃ g c, v = .slice (some ⟨g, 0, none⟩) l.length c ∧ (∀ i, i < l.length → w.cell? ⟨g, i, none⟩ = l[i]?) := by
  rcases h.2 with ⟨rfl, h0⟩ | ⟨g, cap, cur, rfl, hb, hg, hn, hm, hs, ht⟩
  · omega
  · refine ⟨g, cap, rfl, fun i hi => ?_⟩
    rw [cell_of_row w g i cur _ _ hg]
    have e : (cur.toList.take (l.length * 1))[i]? = l[i]? := by rw [ht]
    rw [List.getElem?_take_of_lt (by omega)] at e
    simpa using e

theorem app_row {ops : Array Oper} {rest : List Oper} {o : Oper} {a : Act} {Q : Exit → Act → World → Prop} (W : World) (hgd : o.guard = none) (s x : Operand)
    (ho : o.op = .call { callee := .builtin .append, args := #[s, x], argTypes := #[93, 93] })
    (B : Nat) (v : Value) (l : List Value) (ya : Option Addr) (yn yc : Nat) (hs : a.eval s = v) (hx : a.eval x = .slice (some ⟨W.heap.size, 0, none⟩) 1 1)
    (hown : Owv W B v l) (hB : B ≤ W.heap.size) (hlen : l.length ≤ 1048576)
    (h : ∀ g cap w', Owv w' B (.slice (some ⟨g, 0, none⟩) (l.length + 1) cap) (l ++ [.slice ya yn yc]) → Kept (fun k => v.ownBlock = some k) W w' → (v.ownBlock = some g ∨ W.heap.size ≤ g) → wpList Tryz.prog ops Q rest (a.put o.dst (.slice (some ⟨g, 0, none⟩) (l.length + 1) cap)) w') :
    wpList Tryz.prog ops Q (o :: rest) a (W.alloc (.cells #[.slice ya yn yc] 91)) := by
  obtain ⟨i, hi, hzz⟩ := Option.map_eq_some_iff.1 infoRow
  simp only [Prod.mk.injEq] at hzz
  obtain ⟨hz, hsz, hb⟩ := hzz
  refine wpList_append_lies (W.alloc (.cells #[.slice ya yn yc] 91)) hgd s x 93 ho B 91 i (.slice none 0 0) 1 24 Tryz.underlying93 hi hz hsz hb rfl (by omega) v l.length l hs (World.ownsRow.alloc hown _)
    ⟨W.heap.size, 0, none⟩ 1 1 [.slice ya yn yc] hx rfl ?_ ?_ (by omega) (by unfold maxLen; omega) (by omega) (by simp; omega) _ rfl ?_
  · intro j u hu
    exact World.news_of_block (heap_alloc_new W _) j u hu
  · intro u hu
    simp at hu
    subst hu
    rfl
  · intro g cap w' h1 h2 h3 h4
    refine h g cap w' ?_ ?_ ?_
    · unfold Owv
      simpa using h1
    · have k1 : Kept (fun k => v.ownBlock = some k) W (W.alloc (.cells #[.slice ya yn yc] 91)) := (Kept.refl _ W).alloc _
      exact k1.trans ⟨h2.os, h2.tape, h2.output, h2.size, fun k hk hn => h2.block k hk (fun e => hn e.symm)⟩
    · rcases h3 with h3 | h3
      · exact .inl h3
      · exact .inr (by rw [h3]; simp)


structure Gw (w : World) (B gw cp k : Nat) (gr cr : Nat → Nat) (WW : List (List (List UInt8))) : Prop where
  own : Owv w B (.slice (some ⟨gw, 0, none⟩) k cp) ((List.range k).map fun j => .slice (some ⟨gr j, 0, none⟩) (WW.getD j []).length (cr j))
  wrd : ∀ j x, j < k → x < (WW.getD j []).length → w.cell? ⟨gr j, x, none⟩ = some (.string (bs (wat WW j x)))
  lo : ∀ j, j < k → B ≤ gr j ∧ gr j < w.heap.size ∧ gr j ≠ gw
theorem Gw.lt {w : World} {B gw cp k : Nat} {gr cr : Nat → Nat} {WW : List (List (List UInt8))} (h : Gw w B gw cp k gr cr WW) : B ≤ gw ∧ gw < w.heap.size := h.own.lt gw rfl
theorem Gw.kept {w w' : World} {B gw cp k : Nat} {gr cr : Nat → Nat} {WW : List (List (List UInt8))} (h : Gw w B gw cp k gr cr WW) {S : Nat → Prop} (kp : Kept S w w') (hs : ∀ b, B ≤ b → b < w.heap.size → ¬ S b) : Gw w' B gw cp k gr cr WW :=
  ⟨h.own.kept kp (fun i hi => hs i (h.own.lt i hi).1 (h.own.lt i hi).2), fun j x hj hx => by rw [kp.cell (p := ⟨gr j, x, none⟩) (h.lo j hj).2.1 (hs _ (h.lo j hj).1 (h.lo j hj).2.1)]; exact h.wrd j x hj hx, fun j hj => ⟨(h.lo j hj).1, Nat.lt_of_lt_of_le (h.lo j hj).2.1 kp.size, (h.lo j hj).2.2⟩⟩
theorem Gw.below {w w' : World} {B gw cp k : Nat} {gr cr : Nat → Nat} {WW : List (List (List UInt8))} (h : Gw w B gw cp k gr cr WW) (kp : Below w.heap.size w w') : Gw w' B gw cp k gr cr WW := h.kept (S := fun _ => False) (Kept.ofBelow kp) (fun _ _ _ h => h)
theorem Gw.row {w : World} {B gw cp k : Nat} {gr cr : Nat → Nat} {WW : List (List (List UInt8))} (h : Gw w B gw cp k gr cr WW) {j : Nat} (hj : j < k) : w.cell? ⟨gw, j, none⟩ = some (.slice (some ⟨gr j, 0, none⟩) (WW.getD j []).length (cr j)) := by
  have hl : ((List.range k).map fun j => Value.slice (some ⟨gr j, 0, none⟩) (WW.getD j []).length (cr j)).length = k := by simp
  obtain ⟨g, c, e, hc⟩ := h.own.at (by rw [hl]; omega)
  have e1 : gw = g := by injection e with h1 h2 h3; injection h1 with h1; injection h1
  subst e1
  rw [hc j (by rw [hl]; exact hj), List.getElem?_map, List.getElem?_range hj]
  rfl
theorem Gw.zero (w : World) (B : Nat) (hB : B ≤ w.heap.size) (WW : List (List (List UInt8))) : Gw (w.alloc (.cells #[] 91)) B w.heap.size 0 0 (fun _ => 0) (fun _ => 0) WW :=
  ⟨Owv.lit w B hB, fun j x hj => by omega, fun j hj => by omega⟩
theorem Gw.more {W w' : World} {B gw cp k g c g' cp' : Nat} {gr cr : Nat → Nat} {WW : List (List (List UInt8))} (h : Gw W B gw cp k gr cr WW) 
    (hgl : g < W.heap.size) (hgw : g ≠ gw) (hB : B ≤ g) (hst : ∀ x, x < (WW.getD k []).length → W.cell? ⟨g, x, none⟩ = some (.string (bs (wat WW k x))))
    (ho : Owv w' B (.slice (some ⟨g', 0, none⟩) (k + 1) cp') (((List.range k).map fun j => .slice (some ⟨gr j, 0, none⟩) (WW.getD j []).length (cr j)) ++ [.slice (some ⟨g, 0, none⟩) (WW.getD k []).length c]))
    (hk : Kept (fun i => i = gw) W w') (hgg : g' = gw ∨ W.heap.size ≤ g') : Gw w' B g' cp' (k + 1) (fun j => if j = k then g else gr j) (fun j => if j = k then c else cr j) WW := by
  have hgwl := h.lt
  refine ⟨?_, ?_, ?_⟩
  · have e : ((List.range (k + 1)).map fun j => Value.slice (some ⟨if j = k then g else gr j, 0, none⟩) (WW.getD j []).length (if j = k then c else cr j)) = ((List.range k).map fun j => .slice (some ⟨gr j, 0, none⟩) (WW.getD j []).length (cr j)) ++ [.slice (some ⟨g, 0, none⟩) (WW.getD k []).length c] := by
      rw [List.range_succ, List.map_append]
      congr 1
      · refine List.map_congr_left fun j hj => ?_
        have : j ≠ k := by have := List.mem_range.1 hj; omega
        rw [if_neg this, if_neg this]
      · simp
    rw [e]; exact ho
  · intro j x hj hx
    by_cases e : j = k
    · subst e
      simp only [if_true]
      rw [hk.cell (p := ⟨g, x, none⟩) hgl hgw]
      exact hst x hx
    · simp only [if_neg e]
      have hl := h.lo j (by omega)
      rw [hk.cell (p := ⟨gr j, x, none⟩) hl.2.1 hl.2.2]
      exact h.wrd j x (by omega) hx
  · intro j hj
    by_cases e : j = k
    · subst e
      simp only [if_true]
      exact ⟨hB, Nat.lt_of_lt_of_le hgl hk.size, by omega⟩
    · simp only [if_neg e]
      have hl := h.lo j (by omega)
      exact ⟨hl.1, Nat.lt_of_lt_of_le hl.2.1 hk.size, by omega⟩

set_option maxHeartbeats 1000000 in
theorem sNumB (S : ByteArray) (w : World) (hs : S.size ≤ 1048576) :
    Calls Tryz.prog 98 #[.string S] w fun e w' => e = .returned (.int .i64 (numI (tl S))) ∧ w' = w := by
  by_cases h : S.size ≤ 100000
  · exact sNum S w h
  · have HF : Hid (numI (tl S) = -1) := num_bad_len (.inr (by rw [tl_length]; omega))
    have hz : ((S.size : Int) == 0) = false := beq_eq_false_iff_ne.2 (by omega)
    have h9 : 9 < (S.size : Int) := by omega
    go_enter Tryz.func98, Tryz.ntmps98
    go_wp2
    go_ret
    exact ⟨ret_int HF.out.symm, rfl⟩
set_option maxHeartbeats 1000000 in
theorem sIntB (S : ByteArray) (w : World) (hs : S.size ≤ 1048576) :
    Calls Tryz.prog 60 #[.string S] w fun e w' => e = .returned (.int .i64 (int2 (tl S))) ∧ w' = w := by
  by_cases h : S.size ≤ 100000
  · exact sInt S w h
  · have hl : 100000 < (tl S).length := by rw [tl_length]; omega
    have n1 : tl S ≠ [45, 49] := fun e => by rw [e] at hl; simp at hl
    have n2 : tl S ≠ [49, 48, 48, 48, 48, 48, 48, 48, 48, 48] := fun e => by rw [e] at hl; simp at hl
    have hN : numI (tl S) = -1 := num_bad_len (.inr (by omega))
    have HR : Hid (int2 (tl S) = -2) := by show _ = _; unfold int2; rw [if_neg n1, if_neg n2, hN]; rfl
    have q1 : (S.toList == [45, 49]) = false := Ss1.eql_false n1
    have q2 : (S.toList == [49, 48, 48, 48, 48, 48, 48, 48, 48, 48]) = false := Ss1.eql_false n2
    have HNU := sNumB S w hs
    rw [hN] at HNU
    have HN : Hid _ := HNU
    clear hN HNU n1 n2 hl
    go_enter Tryz.func60, Tryz.ntmps60
    go_wp2_with fail
    refine Calls.mono HN.out ?_
    rintro e w1 ⟨rfl, rfl⟩
    go_wp2
    go_ret
    exact ⟨ret_int HR.out.symm, rfl⟩

theorem past {S T : Nat → Prop} {u v w : World} (h : Kept S u v) (k : Kept T v w) (hT : ∀ b, T b → S b ∨ u.heap.size ≤ b) : Kept S u w :=
  ⟨k.os.trans h.os, k.tape.trans h.tape, k.output.trans h.output, Nat.le_trans h.size k.size, fun i hi hb => (k.block i (Nat.lt_of_lt_of_le hi h.size) (fun t => by
    rcases hT i t with e | e
    · exact hb e
    · omega)).trans (h.block i hi hb)⟩
theorem fin11 {w W : World} {r : Nat} {a0 a1 a2 a3 a4 a5 a6 a7 a8 a9 a10 : Value} (hr : Mf W r [a0, a1, a2, a3, a4, a5, a6, a7, a8, a9, a10]) (hb : Below w.heap.size w W) (hw : w.heap.size ≤ r) (x0 x1 x2 x3 x4 x5 x6 x7 x8 x9 x10 : Value) :
    ∃ W', W' = ((((((((((W.setCell ⟨r, 0, none⟩ x0).setCell ⟨r, 1, none⟩ x1).setCell ⟨r, 2, none⟩ x2).setCell ⟨r, 3, none⟩ x3).setCell ⟨r, 4, none⟩ x4).setCell ⟨r, 5, none⟩ x5).setCell ⟨r, 6, none⟩ x6).setCell ⟨r, 7, none⟩ x7).setCell ⟨r, 8, none⟩ x8).setCell ⟨r, 9, none⟩ x9).setCell ⟨r, 10, none⟩ x10 ∧ Mf W' r [x0, x1, x2, x3, x4, x5, x6, x7, x8, x9, x10] ∧ Below w.heap.size w W' ∧ Kept (fun b => b = r) W W' := by
  refine ⟨_, rfl, ?_, ?_, ?_⟩
  · exact (((((((((((hr.set 0 x0).set 1 x1).set 2 x2).set 3 x3).set 4 x4).set 5 x5).set 6 x6).set 7 x7).set 8 x8).set 9 x9).set 10 x10)
  · have K : Kept (fun b => b = r) W (((((((((((W.setCell ⟨r, 0, none⟩ x0).setCell ⟨r, 1, none⟩ x1).setCell ⟨r, 2, none⟩ x2).setCell ⟨r, 3, none⟩ x3).setCell ⟨r, 4, none⟩ x4).setCell ⟨r, 5, none⟩ x5).setCell ⟨r, 6, none⟩ x6).setCell ⟨r, 7, none⟩ x7).setCell ⟨r, 8, none⟩ x8).setCell ⟨r, 9, none⟩ x9).setCell ⟨r, 10, none⟩ x10) := (((((((((((Kept.refl (fun b => b = r) W).setCell (p := ⟨r, 0, none⟩) rfl _).setCell (p := ⟨r, 1, none⟩) rfl _).setCell (p := ⟨r, 2, none⟩) rfl _).setCell (p := ⟨r, 3, none⟩) rfl _).setCell (p := ⟨r, 4, none⟩) rfl _).setCell (p := ⟨r, 5, none⟩) rfl _).setCell (p := ⟨r, 6, none⟩) rfl _).setCell (p := ⟨r, 7, none⟩) rfl _).setCell (p := ⟨r, 8, none⟩) rfl _).setCell (p := ⟨r, 9, none⟩) rfl _).setCell (p := ⟨r, 10, none⟩) rfl _
    exact hb.trans (K.below (fun b hb => by omega) hb.size)
  · exact (((((((((((Kept.refl (fun b => b = r) W).setCell (p := ⟨r, 0, none⟩) rfl _).setCell (p := ⟨r, 1, none⟩) rfl _).setCell (p := ⟨r, 2, none⟩) rfl _).setCell (p := ⟨r, 3, none⟩) rfl _).setCell (p := ⟨r, 4, none⟩) rfl _).setCell (p := ⟨r, 5, none⟩) rfl _).setCell (p := ⟨r, 6, none⟩) rfl _).setCell (p := ⟨r, 7, none⟩) rfl _).setCell (p := ⟨r, 8, none⟩) rfl _).setCell (p := ⟨r, 9, none⟩) rfl _).setCell (p := ⟨r, 10, none⟩) rfl _
end Go.Proofs.YtmjmnfegaoegjaaGreatDoor.Zw0

/- What the model reads, plain: sizes, and where nothing is read. -/
namespace Go.Proofs.YtmjmnfegaoegjaaGreatDoor.Zw1
open Go.RowKit
open Tx0 Za1 Zk0 Zs0 Zl0 Zl2 Zl3
open Mm0 (Mc Mok)
set_option linter.unusedVariables false

theorem spl_le (d : UInt8) : ∀ (s : List UInt8) (x : List UInt8), x ∈ spl d s → x.length ≤ s.length := by
  intro s
  induction s with
  | nil => intro x hx; have : x = [] := by simpa [spl] using hx
           subst this; simp
  | cons c r ih =>
    intro x hx
    by_cases e : c = d
    · subst e
      rw [spl_cons_eq] at hx
      rcases List.mem_cons.1 hx with e | e
      · subst e; simp
      · have := ih x e; simp; omega
    · rw [spl_cons_ne e] at hx
      cases hy : spl d r with
      | nil => exact absurd hy (spl_ne d r)
      | cons y t =>
        rw [hy] at hx ih
        rcases List.mem_cons.1 hx with e | e
        · subst e
          have := ih y (by simp)
          simp; omega
        · have := ih x (by simp [e])
          simp; omega
theorem lns_le {s x : List UInt8} (h : x ∈ lns s) : x.length ≤ s.length := by
  unfold lns at h
  rw [split_eq] at h
  exact spl_le 10 s x (List.dropLast_subset _ h)
theorem wds_le {s x : List UInt8} (h : x ∈ wds s) : x.length ≤ s.length := by
  unfold wds at h
  rw [split_eq] at h
  exact spl_le 32 s x h
theorem wat_le (s : List UInt8) (i j : Nat) : (wat ((lns s).map wds) i j).length ≤ s.length := by
  unfold wat
  by_cases hi : i < (lns s).length
  · rw [List.getD_eq_getElem?_getD, List.getD_eq_getElem?_getD, List.getElem?_map, List.getElem?_eq_getElem hi]
    show (((wds (lns s)[i])[j]?).getD []).length ≤ _
    by_cases hj : j < (wds (lns s)[i]).length
    · rw [List.getElem?_eq_getElem hj]
      show ((wds (lns s)[i])[j]).length ≤ _
      have h1 := wds_le (List.getElem_mem hj)
      have h2 := lns_le (List.getElem_mem hi)
      omega
    · rw [List.getElem?_eq_none (by omega)]; simp
  · have e : ((lns s).map wds).getD i [] = [] := by rw [List.getD_eq_getElem?_getD, List.getElem?_eq_none (by simpa using hi)]; rfl
    rw [e]
    simp
theorem wrow {s : List UInt8} {i : Nat} (hi : i < (lns s).length) : ((lns s).map wds).getD i [] = wds (lns s)[i] := by
  rw [List.getD_eq_getElem?_getD, List.getElem?_map, List.getElem?_eq_getElem hi]; rfl
theorem wcell {s : List UInt8} {i j : Nat} (hi : i < (lns s).length) (hj : j < (wds (lns s)[i]).length) : (wds (lns s)[i])[j] = wat ((lns s).map wds) i j := by
  unfold wat
  rw [wrow hi, List.getD_eq_getElem?_getD, List.getElem?_eq_getElem hj]; rfl
theorem ldM_long {s : List UInt8} (h : 400000 < s.length) : ldM s = none := by
  cases hm : ldM s with
  | none => rfl
  | some m =>
    have := ldM_ok hm
    unfold okL at this
    obtain ⟨h1, h2⟩ := Bool.and_eq_true_iff.1 this
    have h3 := (sv_mok h1).2.2
    rw [of_decide_eq_true h2] at h3
    omega
theorem ldM_fit {s : List UInt8} (h : fitW ((lns s).map wds) = false) : ldM s = none := by
  unfold ldM mdS
  rw [h]
  rfl
theorem ldM_keys {s : List UInt8} (h : (rrB (wat ((lns s).map wds) 0 1) && rkB (wat ((lns s).map wds) 1 1)) = false) : ldM s = none := by
  unfold ldM mdS
  rw [h]
  cases fitW ((lns s).map wds) <;> rfl
theorem ldM_made {s : List UInt8} (h : fitW ((lns s).map wds) = true) (h2 : (rrB (wat ((lns s).map wds) 0 1) && rkB (wat ((lns s).map wds) 1 1)) = true) : ldM s = if okL s (madeW ((lns s).map wds)) = true then some (madeW ((lns s).map wds)) else none := by
  unfold ldM mdS
  rw [h, h2]
  rfl
def fit1 (i n : Nat) : Prop := 2 ≤ n ∧ (i = 6 → n = 4) ∧ (6 < i → n = 3)
theorem fit_no {s : List UInt8} {i : Nat} (hi : i < (lns s).length) (h : ¬ fit1 i (wds (lns s)[i]).length) : fitW ((lns s).map wds) = false := by
  unfold fitW
  refine decide_eq_false fun hc => h ?_
  have := hc.2.2 i (by simpa using hi)
  rw [wrow hi] at this
  exact this
theorem fit_len {s : List UInt8} (h : (lns s).length < 7 ∨ 47 < (lns s).length) : fitW ((lns s).map wds) = false := by
  unfold fitW
  refine decide_eq_false fun hc => ?_
  have h1 := hc.1
  have h2 := hc.2.1
  rw [List.length_map] at h1 h2
  omega
theorem fit_yes {s : List UInt8} (h7 : 7 ≤ (lns s).length) (h47 : (lns s).length ≤ 47) (h : ∀ i, i < (lns s).length → fit1 i (((lns s).map wds).getD i []).length) : fitW ((lns s).map wds) = true := by
  unfold fitW
  exact decide_eq_true ⟨by simpa using h7, by simpa using h47, fun i hi => h i (by simpa using hi)⟩
end Go.Proofs.YtmjmnfegaoegjaaGreatDoor.Zw1
