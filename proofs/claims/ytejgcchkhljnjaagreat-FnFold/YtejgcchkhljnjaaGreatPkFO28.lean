/- Small texts of mine, one behind the other. -/
import Derived.WalkSpells
import Derived.Deep.RegionWith
import Derived.Shelf.Abstract
import Derived.Laws.MakeOwn
import Derived.Test.YtejgcchkhljnjaaGreatPkFO26
import Derived.Test.YtejgcchkhljnjaaGreatPkFO12
import Derived.Test.YtejgcchkhljnjaaGreatPkFO27
import Derived.Test.YtejgcchkhljnjaaGreatPkFO19
import Derived.Test.YtejgcchkhljnjaaGreatPkFO16
import Derived.Test.YtejgcchkhljnjaaGreatPkFO1
import Derived.Test.YtejgcchkhljnjaaGreatWs1
import Derived.Test.YtejgcchkhljnjaaGreatPkFO0
/- The program's walk over a term, for sets of variables: what the closure tells asks nothing of what was said of the parts. -/
namespace Go.Proofs.YtejgcchkhljnjaaGreat.Aw3
open Go.RowKit
open Nd0 Pl1 Tm0 Tm1 Tm8 Pg1 Pg2 Rw0 Aq0

open Aw1 (nv)
set_option linter.unusedVariables false

end Go.Proofs.YtejgcchkhljnjaaGreat.Aw3

/- Walks of the program's sets of variables: justVar and numbers. -/
namespace Go.Proofs.YtejgcchkhljnjaaGreat.Pg8
open Go.RowKit
open Nd0 Pl1 Tm0 Tm1 Tm4 Tm7 Ap0
open Ws1 (ret_int ret_bool)
set_option linter.unusedVariables false

end Go.Proofs.YtejgcchkhljnjaaGreat.Pg8

/- The walk of the program's freeSet. -/
namespace Go.Proofs.YtejgcchkhljnjaaGreat.Pg9
open Go.RowKit
open Nd0 Pl1 Tm0 Tm1 Tm4 Tm5 Tm7 Ap0 Pg1 Pg2 Pg8 Rw0
open Ws1 (ret_int ret_bool)
open Lx1 (ITermOk)
set_option linter.unusedVariables false

theorem var_of {l : List Nd} {k : Nat} (h : nodeOk l k = true) (hop : (nth l k).op = 1 ∨ quant (nth l k).op = true) : ∃ kk : Nat, (nth l k).k = (kk : Int) ∧ kk ≤ 7 := by
  simp only [nodeOk, Bool.and_eq_true] at h
  have hs := h.2
  unfold shapeOk at hs
  have hb : 0 ≤ (nth l k).k ∧ (nth l k).k ≤ 7 := by
    rcases hop with h1 | h1
    · rw [if_neg (by omega), if_pos h1] at hs
      simp at hs; omega
    · have h2 : (nth l k).op = 19 ∨ (nth l k).op = 20 := by simpa [quant] using h1
      rw [if_neg (by omega), if_neg (by omega), if_neg (by omega), if_neg (by omega), if_neg (by omega), if_neg (by omega), if_neg (by omega), if_neg (by omega), if_pos h2] at hs
      simp at hs; omega
  exact ⟨(nth l k).k.toNat, by omega, by omega⟩

end Go.Proofs.YtejgcchkhljnjaaGreat.Pg9

/- The program's sets of numbers and its Vars. -/
namespace Go.Proofs.YtejgcchkhljnjaaGreat.Pb1
open Go.RowKit
open Nd0 Nd3 Pl1 Tm0 Tm1 Tm3 Tm5 Tm7 Tm8 Tm13 Rw0 Pg1 Pg8 Aq0 Aw3
open Pg9 (var_of)
open Aw1 (nv)
open Lx4 (IPrune)
open Ws1 (ret_int ret_bool)
set_option linter.unusedVariables false

end Go.Proofs.YtejgcchkhljnjaaGreat.Pb1

/- The program's Level and CountOp. -/
namespace Go.Proofs.YtejgcchkhljnjaaGreat.Pb2
open Go.RowKit
open Nd0 Nd3 Pl1 Tm0 Tm1 Tm3 Tm5 Tm7 Tm8 Tm13 Rw0 Pg1 Aq0 Aw1

open Lx1 (ITermOk)
open Lx4 (IPrune)
open Ws1 (ret_int ret_bool)
set_option linter.unusedVariables false

set_option maxRecDepth 100000 in
set_option maxHeartbeats 2000000 in
theorem iLev (i : Int) (n : Nd) (a : Option Addr) (c : Nat) (w : World) (ps : List Int) (hI : Ints w a ps) (h3 : ps.length ≤ 3) (hb : ∀ x ∈ ps, x ≤ 1048576) (j : Nat) :
    Calls Tryz.prog 57 (#[.int .i64 i, nv n, .slice a ps.length c] ++ #[]) w fun e w' => e = .returned (.int .i64 (levF j n ps)) ∧ Below w.heap.size w w' := by
  have HB0 : Hid (Below w.heap.size w (w.alloc (.cells #[.int .i64 n.op, .int .i64 n.w, .int .i64 n.k, .int .i64 n.a, .int .i64 n.b, .int .i64 n.c] 53))) := (Below.refl _ _).alloc (Nat.le_refl _) _
  have HI : Hid (Ints (w.alloc (.cells #[.int .i64 n.op, .int .i64 n.w, .int .i64 n.k, .int .i64 n.a, .int .i64 n.b, .int .i64 n.c] 53)) a ps) := hI.below HB0.out
  have HLV : Hid (levF j n ps = most ps + 1) := rfl
  have HMX : Hid (∀ x ∈ ps, x ≤ 1048576) := hb
  clear hI hb
  go_enter Tryz.func57, Tryz.ntmps57
  go_wp2_with fail
  generalize w.alloc (.cells #[.int .i64 n.op, .int .i64 n.w, .int .i64 n.k, .int .i64 n.a, .int .i64 n.b, .int .i64 n.c] 53) = w1 at HB0 HI ⊢
  go_loop [7, 12] (fun x q => ∃ m : Nat, m ≤ ps.length ∧ q = .int .i64 m ∧ x = .int .i64 (most (ps.take m))) (fun _ q => ps.length - (intOf q).toNat)
  case atStart => exact ⟨0, Nat.zero_le _, rfl, rfl⟩
  case round =>
    obtain ⟨m, hm, rfl, rfl⟩ := hrel
    have hmb := most_bound (m := 1048576) (by omega) (ps.take m) (fun x hx => HMX.out x (List.mem_of_mem_take hx))
    by_cases hlt : m < ps.length
    · have hmz : (m : Int) < (ps.length : Int) := by omega
      rcases HI.out.2 with h0 | ⟨pb, po, rfl, hpc⟩
      · omega
      have q0 := hpc m hlt
      have HTK : Hid (most (ps.take (m + 1)) = mx (most (ps.take m)) ps[m]) := by show _ = _; rw [List.take_succ_eq_append_getElem hlt, most_snoc]
      clear hpc
      generalize ps[m] = y at q0 HTK
      generalize most (ps.take m) = x at hmb HTK
      by_cases hxy : x < y
      · have hmx : mx x y = y := if_pos hxy
        rw [hmx] at HTK
        clear hmx
        go_wp2
        go_round
        case rel => exact ⟨m + 1, by omega, by go_num, by rw [HTK.out]⟩
        case measure => simp [intOf]; omega
      · have hmx : mx x y = x := if_neg hxy
        rw [hmx] at HTK
        clear hmx
        go_wp2
        go_round
        case rel => exact ⟨m + 1, by omega, by go_num, by rw [HTK.out]⟩
        case measure => simp [intOf]; omega
    · have e : m = ps.length := by omega
      subst e
      rw [List.take_length] at hmb ⊢
      go_wp2
      go_ret
      rw [HLV.out]
      exact ⟨ret_int (by first | rfl | (simp; omega) | omega), HB0.out⟩

set_option maxRecDepth 100000 in
set_option maxHeartbeats 2000000 in
theorem iLevel (hTO : ITermOk) (w : World) (a : Option Addr) (l : List Nd) (c : Nat) (hN : Nodes w a l) (hcap : l.length ≤ c) (hlen : l.length ≤ 1048576) :
    Calls Tryz.prog 17 #[.slice a l.length c] w fun e w' => e = .returned (.int .i64 (levelL l)) ∧ Below w.heap.size w w' := by
  have HN : Hid (Nodes w a l) := hN
  have HTO : Hid ITermOk := hTO
  have HCAP : Hid (l.length ≤ c) := hcap
  clear hcap hN hTO
  go_enter Tryz.func17, Tryz.ntmps17
  go_wp2_with fail
  refine (HTO.out _ a l c HN.out HCAP.out hlen).mono ?_
  rintro e w1 ⟨rfl, hb1⟩
  have HB1 : Hid (Below w.heap.size w w1) := hb1
  clear hb1
  cases hT : termOk l
  · have HE : Hid (levelL l = 0) := by show _ = _; unfold levelL; rw [hT]; rfl
    go_wp2
    go_ret
    rw [HE.out]
    exact ⟨rfl, HB1.out⟩
  · have HT : Hid (termOk l = true) := hT
    obtain ⟨hl1, hl2⟩ := term_len hT
    have HE : Hid (levelL l = (levTo l l.length).getD (l.length - 1) 0) := by show _ = _; unfold levelL; rw [hT]; rfl
    clear hT
    have HW : Hid (∀ W : World, Nodes W a l → Calls Tryz.prog 56 #[.slice a l.length c, .func (.func 57) #[] #[]] W fun e w' => (∃ a', e = .returned (.slice a' l.length l.length) ∧ WInts w' W.heap.size a' (wk 0 levF l l.length)) ∧ Below W.heap.size W w') :=
      fun W h => wInt _ _ levF W a l c h (down_of HT.out) hlen (enters_of Tryz.func57 (by kernel_rfl) rfl) (fun W' i a' c' hi hb hI => iLev _ _ _ _ _ _ hI (by rw [said_len]; exact parts_le _) (fun x hx => by
        obtain ⟨p, hp, rfl⟩ := List.mem_map.1 hx
        have hd := down_of HT.out i hi p hp
        have := (lev_at l (i := p.toNat) (k := i) (by omega)).2
        unfold levTo at this
        omega) _)
    go_wp2_with fail
    refine (HW.out _ (HN.out.below HB1.out)).mono ?_
    rintro e w2 ⟨⟨a2, rfl, hi2⟩, hb2⟩
    have HB2 : Hid (Below w.heap.size w w2) := HB1.out.trans (hb2.mono HB1.out.size)
    have hlw : (wk 0 levF l l.length).length = l.length := wk_length _ _ _ _
    rcases hi2.2 with h0 | ⟨b, o, rfl, _, hc⟩
    · omega
    have c0 := (hc (l.length - 1) (by omega)).1
    have HX : Hid ((wk 0 levF l l.length)[l.length - 1]'(by omega) = levelL l) := by
      show _ = _
      rw [HE.out, List.getD_eq_getElem?_getD, List.getElem?_eq_getElem (by unfold levTo; omega)]
      rfl
    rw [HX.out] at c0
    clear hi2 hb2 hc HX HE HW hlw
    generalize hy : levelL l = y at c0
    have HY : Hid (levelL l = y) := hy
    clear hy
    have g1 : (0 : Int) ≤ (l.length : Int) - 1 := by omega
    have g2 : (l.length : Int) - 1 < (l.length : Int) := by omega
    go_wp2
    go_ret
    rw [HY.out]
    exact ⟨rfl, HB2.out⟩

end Go.Proofs.YtejgcchkhljnjaaGreat.Pb2

/- The walk of the exact laws' copy of a list of nodes. -/
namespace Go.Proofs.YtejgcchkhljnjaaGreat.Nd4
open Go.RowKit
open Nd0 Nd1 Nd3
set_option linter.unusedVariables false

theorem infoNode : (Tryz.prog.info? 53).map (fun i => (i.zero, i.size, i.bytes)) = some (some (.agg #[.int .i64 0, .int .i64 0, .int .i64 0, .int .i64 0, .int .i64 0, .int .i64 0]), 6, 48) := by kernel_rfl

def zeros (n : Nat) : Array Value := madeCells #[.int .i64 0, .int .i64 0, .int .i64 0, .int .i64 0, .int .i64 0, .int .i64 0] (n * 6)
theorem zeros_get (n j : Nat) (h : j < n * 6) : (zeros n)[j]? = some (.int .i64 0) := by
  have hz : ∀ m, m < 6 → (#[.int .i64 0, .int .i64 0, .int .i64 0, .int .i64 0, .int .i64 0, .int .i64 0] : Array Value)[m]! = .int .i64 0 := by
    intro m hm
    have : m = 0 ∨ m = 1 ∨ m = 2 ∨ m = 3 ∨ m = 4 ∨ m = 5 := by omega
    rcases this with rfl | rfl | rfl | rfl | rfl | rfl <;> rfl
  simp only [zeros, madeCells, Array.getElem?_map, Array.getElem?_range]
  rw [if_pos h]
  simp only [Option.map_some]
  exact congrArg some (hz _ (Nat.mod_lt _ (by simp)))
theorem makeNodes (n : Nat) (hn : n ≤ 1048576) (w : World) :
    (Instr.makeSlice 24 (.int .i64 (n : Int)) (.int .i64 (n : Int))).run Tryz.prog w = .ok (.slice (some ⟨w.heap.size, 0, none⟩) n n) (w.alloc (.cells (zeros n) 53)) := by
  obtain ⟨i, hi, hzz⟩ := Option.map_eq_some_iff.1 infoNode
  simp only [Prod.mk.injEq] at hzz
  obtain ⟨hz, hs, hb⟩ := hzz
  have h := run_make (P := Tryz.prog) w 24 53 i _ Tryz.underlying24 hi hz .i64 .i64 n n (by omega) (Int.le_refl _) (by rw [hb]; omega) (by omega)
  rw [hs] at h
  simpa [zeros, Value.cells] using h
theorem zeros_at (w : World) (n : Nat) (T : Nat) (j : Nat) (hj : j < n) : NodeAt (w.alloc (.cells (zeros n) T)) w.heap.size (j * 6) Nd.zero := by
  refine ⟨?_, ?_, ?_, ?_, ?_, ?_⟩ <;> rw [World.cell?_alloc_new] <;> exact zeros_get _ _ (by omega)

end Go.Proofs.YtejgcchkhljnjaaGreat.Nd4

/- The program's walk over a term, for nodes. -/
namespace Go.Proofs.YtejgcchkhljnjaaGreat.Aw2
open Go.RowKit
open Nd0 Nd3 Pl1 Tm0 Tm1 Tm8 Pg1 Pg2 Aq0
open Ap2 (app_node)
open Nd4 (makeNodes zeros zeros_get)
open Aw1 (nv)
set_option linter.unusedVariables false

def RowN (w : World) (g n : Nat) (f : Nat → Nd) : Prop := ∀ i, i < n → NodeAt w g (i * 6) (f i) ∧ ∀ j, j < 6 → w.frozen? ⟨g, i * 6 + j, none⟩ = false
theorem RowN.kept {w w' : World} {g n : Nat} {f : Nat → Nd} (h : RowN w g n f) {S : Nat → Prop} (k : Kept S w w') (hs : ¬ S g) : RowN w' g n f := fun i hi => by
  obtain ⟨⟨c0, c1, c2, c3, c4, c5⟩, hf⟩ := h i hi
  have hb : g < w.heap.size := lt_of_cell (p := ⟨g, i * 6, none⟩) c0
  exact ⟨⟨by rw [k.cell hb hs]; exact c0, by rw [k.cell hb hs]; exact c1, by rw [k.cell hb hs]; exact c2, by rw [k.cell hb hs]; exact c3, by rw [k.cell hb hs]; exact c4, by rw [k.cell hb hs]; exact c5⟩, fun j hj => by rw [k.frozen (p := ⟨g, i * 6 + j, none⟩) hb hs]; exact hf j hj⟩
theorem RowN.below {w w' : World} {g n : Nat} {f : Nat → Nd} (h : RowN w g n f) (k : Below w.heap.size w w') : RowN w' g n f := h.kept (S := fun _ => False) (Kept.ofBelow k) (fun h => h)
theorem RowN.congr {w : World} {g n : Nat} {f f' : Nat → Nd} (h : RowN w g n f) (e : ∀ i, i < n → f i = f' i) : RowN w g n f' := fun i hi => by rw [← e i hi]; exact h i hi
theorem RowN.lt {w : World} {g n : Nat} {f : Nat → Nd} (h : RowN w g n f) (hn : 0 < n) : g < w.heap.size := (h 0 hn).1.lt
theorem RowN.set {w : World} {g n : Nat} {f : Nat → Nd} (h : RowN w g n f) {p : Nat} (hp : p < n) (v : Nd) : RowN (setNode w g (p * 6) v) g n (fun i => if i = p then v else f i) := by
  intro i hi
  refine ⟨?_, fun j hj => by rw [setNode_frozen]; exact (h i hi).2 j hj⟩
  by_cases e : i = p
  · subst e
    dsimp only
    rw [if_pos rfl]
    exact setNode_same (h i hi).1
  · dsimp only
    rw [if_neg e]
    exact setNode_other (h i hi).1 (by omega)
theorem RowN.new (w : World) (n T : Nat) : RowN (w.alloc (.cells (zeros n) T)) w.heap.size n (fun _ => Nd.zero) := fun i hi => ⟨Nd4.zeros_at w n T i hi, fun j hj => by simp⟩

def TellN (w0 : World) (k : Nat) (cap : Array Value) (l : List Nd) (F : Nat → Nd → List Nd → Nd) : Prop :=
  ∀ (W : World) (i : Nat) (a : Option Addr) (c : Nat), i < l.length → Below w0.heap.size w0 W → Nodes W a (said Nd.zero F l i) →
    Calls Tryz.prog k (#[.int .i64 (i : Int), nv (nth l i), .slice a (said Nd.zero F l i).length c] ++ cap) W fun e w' => e = .returned (nv (F i (nth l i) (said Nd.zero F l i))) ∧ Below W.heap.size W w'

set_option maxRecDepth 100000 in
set_option maxHeartbeats 4000000 in
theorem wNode (k : Nat) (cap : Array Value) (F : Nat → Nd → List Nd → Nd) (w : World) (a : Option Addr) (l : List Nd) (c : Nat) (hN : Nodes w a l) (hD : Down l) (hl : l.length ≤ 1048576)
    (hk : ∀ args w, (callFunc k args).run Tryz.prog w = .ok (.enter k args) w) (hT : TellN w k cap l F) :
    Calls Tryz.prog 46 #[.slice a l.length c, .func (.func k) #[] cap] w fun e w' => (∃ a', e = .returned (.slice a' l.length l.length) ∧ WNodes w' w.heap.size a' (wk Nd.zero F l l.length)) ∧ Below w.heap.size w w' := by
  have HN : Hid (Nodes w a l) := hN
  have HD : Hid (Down l) := hD
  have HT : Hid (TellN w k cap l F) := hT
  clear hN hD hT
  have hmk := makeNodes l.length hl w
  obtain ⟨g, hg⟩ : ∃ g : Nat, g = w.heap.size := ⟨_, rfl⟩
  have HG : Hid (g = w.heap.size) := hg
  have HR0 : Hid (RowN (w.alloc (.cells (zeros l.length) 53)) g l.length (fun i => (wk Nd.zero F l 0).getD i Nd.zero)) := by
    rw [hg]
    exact RowN.new _ _ _
  have HB0 : Hid (Below w.heap.size w (w.alloc (.cells (zeros l.length) 53))) := (Below.refl _ _).alloc (Nat.le_refl _) _
  go_enter Tryz.func46, Tryz.ntmps46
  go_wp2_with fail
  clear hmk
  rw [← hg]
  clear hg
  generalize w.alloc (.cells (zeros l.length) 53) = wa at HR0 HB0 ⊢
  go_loopw [16] (fun q wr => ∃ j : Nat, j ≤ l.length ∧ q = .int .i64 j ∧ RowN wr g l.length (fun i => (wk Nd.zero F l j).getD i Nd.zero) ∧ Below w.heap.size w wr) (fun q _ => l.length - (intOf q).toNat)
  case atStart => exact ⟨0, Nat.zero_le _, rfl, HR0.out, HB0.out⟩
  case round =>
    clear HR0 HB0
    obtain ⟨j, hj, rfl, hr, hb⟩ := hrel
    obtain ⟨wb, rfl⟩ : ∃ wb : World, wb = wr := ⟨_, rfl⟩
    have HR : Hid (RowN wb g l.length (fun i => (wk Nd.zero F l j).getD i Nd.zero)) := hr
    have HB : Hid (Below w.heap.size w wb) := hb
    have hBs : w.heap.size ≤ wb.heap.size := hb.size
    clear hr hb
    by_cases hlt : j < l.length
    · have hlz : (j : Int) < (l.length : Int) := by omega
      rcases (HN.out.below HB.out).2 with h0 | ⟨xb, xo, rfl, hc⟩
      · omega
      obtain ⟨p0, p1, p2, p3, p4, p5⟩ := hc j hlt
      rw [nth_get hlt] at p0 p1 p2 p3 p4 p5
      clear hc
      have HDJ : Hid (∀ p ∈ parts (nth l j), 0 ≤ p ∧ p < (j : Int)) := HD.out j hlt
      have HSA : Hid (said Nd.zero F l j = (parts (nth l j)).map fun p => (wk Nd.zero F l j).getD p.toNat Nd.zero) := rfl
      have HTJ : Hid (∀ (W : World) (a : Option Addr) (c : Nat), Below w.heap.size w W → Nodes W a (said Nd.zero F l j) →
        Calls Tryz.prog k (#[.int .i64 (j : Int), nv (nth l j), .slice a (said Nd.zero F l j).length c] ++ cap) W fun e w' => e = .returned (nv (F j (nth l j) (said Nd.zero F l j))) ∧ Below W.heap.size W w') := fun W a c h1 h2 => HT.out W j a c hlt h1 h2
      have HWK : Hid (∀ i, (wk Nd.zero F l (j + 1)).getD i Nd.zero = if i = j then F j (nth l j) (said Nd.zero F l j) else (wk Nd.zero F l j).getD i Nd.zero) := fun i => wk_set Nd.zero F l j i
      generalize hn : nth l j = n at p0 p1 p2 p3 p4 p5 HDJ HSA HTJ HWK
      clear hn
      generalize F j n (said Nd.zero F l j) = y at HTJ HWK
      generalize said Nd.zero F l j = sd at HSA HTJ
      have hX : ∃ X : Nat → Nd, X = fun i => (wk Nd.zero F l j).getD i Nd.zero := ⟨_, rfl⟩
      obtain ⟨X, hX⟩ := hX
      have HRX : Hid (RowN wb g l.length X) := by rw [hX]; exact HR.out
      have HSX : Hid (sd = (parts n).map fun p => X p.toNat) := by show _ = _; rw [hX]; exact HSA.out
      have HWX : Hid (∀ i, (wk Nd.zero F l (j + 1)).getD i Nd.zero = if i = j then y else X i) := by rw [hX]; exact HWK.out
      clear hX HSA HWK HR
      have hgl : g < wb.heap.size := HRX.out.lt (by omega)
      obtain ⟨W1, hW1⟩ : ∃ W1 : World, W1 = wb.alloc (.cells #[.int .i64 n.op, .int .i64 n.w, .int .i64 n.k, .int .i64 n.a, .int .i64 n.b, .int .i64 n.c] 53) := ⟨_, rfl⟩
      have hs1 : W1.heap.size = wb.heap.size + 1 := by rw [hW1]; simp
      have HB1 : Hid (Below wb.heap.size wb W1) := by rw [hW1]; exact (Below.refl _ _).alloc (Nat.le_refl _) _
      have HNB : Hid (NodeAt W1 wb.heap.size 0 n) := by rw [hW1]; exact ⟨by simp, by simp, by simp, by simp, by simp, by simp⟩
      obtain ⟨W2, hW2⟩ : ∃ W2 : World, W2 = W1.alloc (.cells #[] 53) := ⟨_, rfl⟩
      have hs2 : W2.heap.size = wb.heap.size + 2 := by rw [hW2]; simp [hs1]
      have HB2 : Hid (Below W1.heap.size W1 W2) := by rw [hW2]; exact (Below.refl _ _).alloc (Nat.le_refl _) _
      have HO2 : Hid (Ap2.Own W2 W1.heap.size (.slice (some ⟨wb.heap.size + 1, 0, none⟩) 0 0) []) := by rw [← hs1, hW2]; exact Ap2.Own.lit W1 _ (Nat.le_refl _)
      go_wp2_with fail
      rw [← hW1, ← hW2]
      refine (iParts n W2).mono ?_
      rintro e W3 ⟨⟨pa, pc, rfl, hpi⟩, hb3⟩
      have hs3 := hb3.size
      have HP3 : Hid (IntsIn W3 W2.heap.size W3.heap.size pa (parts n)) := hpi.within
      have HO3 : Hid (Ap2.Own W3 W1.heap.size (.slice (some ⟨wb.heap.size + 1, 0, none⟩) 0 0) []) := HO2.out.kept (S := fun _ => False) (Kept.ofBelow hb3) (fun _ _ h => h)
      have HB3 : Hid (Below W1.heap.size W1 W3) := HB2.out.trans (hb3.mono (by omega))
      have hpl := parts_le n
      clear hpi hb3 HB2 HO2 hW1 hW2 p0 p1 p2 p3 p4 p5
      go_wp2_with fail
      go_loopw [8, 25] (fun v q wq => ∃ m : Nat, m ≤ (parts n).length ∧ q = .int .i64 m ∧ Ap2.Own wq W1.heap.size v (((parts n).take m).map fun p => X p.toNat) ∧ Below W1.heap.size W1 wq ∧ IntsIn wq W2.heap.size W3.heap.size pa (parts n) ∧ W3.heap.size ≤ wq.heap.size ∧ ∀ x, v.ownBlock = some x → x < W2.heap.size ∨ W3.heap.size ≤ x) (fun _ q _ => (parts n).length - (intOf q).toNat)
      case atStart => exact ⟨0, Nat.zero_le _, rfl, HO3.out, HB3.out, HP3.out, Nat.le_refl _, fun x hx => by cases hx; exact .inl (by simp; omega)⟩
      case round =>
        clear HO3 HB3 HP3
        obtain ⟨m, hm, rfl, ho, hb, hi, hsz, hne⟩ := hrel
        have HBQ : Hid (Below W1.heap.size W1 wr) := hb
        have HIQ : Hid (IntsIn wr W2.heap.size W3.heap.size pa (parts n)) := hi
        have HRQ : Hid (RowN wr g l.length X) := (HRX.out.below HB1.out).below hb
        have HBW : Hid (Below w.heap.size w wr) := (HB.out.trans (HB1.out.mono hBs)).trans (hb.mono (by omega))
        have hB1 : W1.heap.size ≤ wr.heap.size := hb.size
        clear hb hi
        obtain ⟨ao, co, rfl, hwn⟩ := ho.form
        have HO : Hid (Ap2.Own wr W1.heap.size (.slice ao (((parts n).take m).map fun p => X p.toNat).length co) (((parts n).take m).map fun p => X p.toNat)) := ho
        have HNE : Hid (∀ x, (Value.slice ao (((parts n).take m).map fun p => X p.toNat).length co).ownBlock = some x → x < W2.heap.size ∨ W3.heap.size ≤ x) := hne
        have HLJ : Hid ((((parts n).take m).map fun p => X p.toNat).length = m) := by
          show _ = _
          rw [List.length_map, List.length_take]; omega
        clear ho hne
        by_cases hlt2 : m < (parts n).length
        · have hmz : (m : Int) < ((parts n).length : Int) := by omega
          clear hwn
          rcases HIQ.out.2 with h0 | ⟨pb, po, rfl, hpB, hpU, hpc⟩
          · omega
          have q0 := (hpc m hlt2).1
          have HPM := HDJ.out _ (List.getElem_mem hlt2)
          have HTK : Hid (((parts n).take (m + 1)).map (fun p => X p.toNat) = (((parts n).take m).map fun p => X p.toNat) ++ [X (parts n)[m].toNat]) := by
            show _ = _
            rw [List.take_succ_eq_append_getElem hlt2, List.map_append]; rfl
          obtain ⟨hy0, hy1⟩ := HPM
          generalize (parts n)[m] = yp at q0 hy0 hy1 HTK
          generalize (((parts n).take m).map fun p => X p.toNat) = L at HO HNE HLJ HTK ⊢
          clear hpc
          obtain ⟨jy, rfl⟩ := Int.eq_ofNat_of_zero_le hy0
          rw [Int.toNat_natCast] at HTK
          have c9 : NodeAt wr g (jy * 6) (X jy) := (HRQ.out jy (by omega)).1
          have hyl : (jy : Int) < (l.length : Int) := by omega
          have hLl : L.length ≤ 1048576 := by have := HLJ.out; omega
          generalize X jy = z at c9 HTK
          obtain ⟨c0, c1, c2, c3, c4, c5⟩ := c9
          go_wp2_with (at_builtin; go_must (refine app_node _ rfl _ _ rfl W1.heap.size (.slice ao L.length co) L z rfl _ rfl rfl HO.out hB1 hLl ?_; intro g5 cp5 w5 ho5 hk5 hg5))
          have HO5 : Hid (Ap2.Own w5 W1.heap.size (.slice (some ⟨g5, 0, none⟩) (L.length + 1) cp5) (L ++ [z])) := ho5
          have HK5 : Hid (Kept (fun k => (Value.slice ao L.length co).ownBlock = some k) wr w5) := hk5
          have HG5 : Hid ((Value.slice ao L.length co).ownBlock = some g5 ∨ wr.heap.size ≤ g5) := hg5
          clear ho5 hk5 hg5
          go_wp2
          go_roundw
          case rel =>
            refine ⟨m + 1, by omega, by go_num, by rw [HTK.out]; exact HO5.out, HBQ.out.trans (HK5.out.below (fun b hb => (HO.out.lt b hb).1) hB1), HIQ.out.kept HK5.out (fun b h1 h2 e => by have := HNE.out b e; omega), by have := HK5.out.size; omega, fun b hb => ?_⟩
            cases hb
            rcases HG5.out with e | e
            · exact HNE.out _ e
            · exact .inr (by show _ ≤ g5; omega)
          case measure => simp [intOf]; omega
        · have hmz : ¬ (m : Int) < ((parts n).length : Int) := by omega
          have hme : m = (parts n).length := by omega
          have HLS : Hid ((((parts n).take m).map fun p => X p.toNat) = sd) := by show _ = _; rw [HSX.out, List.take_of_length_le (by omega)]
          clear HO HNE HLJ hme
          rw [HLS.out] at hwn ⊢
          have HWN : Hid (WNodes wr W1.heap.size ao sd) := hwn
          obtain ⟨b0, b1, b2, b3, b4, b5⟩ := HNB.out.below HBQ.out (by omega)
          clear hwn
          go_wp2_with fail
          refine (HTJ.out wr ao co HBW.out HWN.out.nodes).mono ?_
          rintro e w6 ⟨rfl, hb6⟩
          have HB6 : Hid (Below w.heap.size w w6) := HBW.out.trans (hb6.mono (by omega))
          have HR6 : Hid (RowN w6 g l.length X) := HRQ.out.below hb6
          obtain ⟨⟨c0, c1, c2, c3, c4, c5⟩, hfz⟩ := HR6.out j hlt
          have f0 := hfz 0 (by omega)
          have f1 := hfz 1 (by omega)
          have f2 := hfz 2 (by omega)
          have f3 := hfz 3 (by omega)
          have f4 := hfz 4 (by omega)
          have f5 := hfz 5 (by omega)
          rw [Nat.add_zero] at f0
          clear hfz
          clear hb6 b0 b1 b2 b3 b4 b5
          go_wp2_with fail
          go_roundw
          case rel =>
            refine ⟨j + 1, by omega, by go_num, ?_, HB6.out.trans ((setNode_keptS (S := fun b => b = g) (b := g) (p := j * 6) (n := y) rfl (Kept.refl _ w6)).below (fun b (hb : b = g) => by have := HG.out; omega) HB6.out.size)⟩
            refine (HR6.out.set hlt _).congr (fun i hi => ?_)
            rw [HWX.out]
          case measure => simp [intOf]; omega
    · have e2 : j = l.length := by omega
      subst e2
      go_wp2
      go_ret
      refine ⟨⟨_, rfl, ⟨by rw [wk_length]; unfold maxLen; omega, .inr ⟨g, 0, rfl, by have := HG.out; omega, fun i hi => ?_, fun j hj => ?_⟩⟩⟩, HB.out⟩
      · have h9 := HR.out i (by rw [wk_length] at hi; exact hi)
        dsimp only at h9
        rw [List.getD_eq_getElem?_getD, List.getElem?_eq_getElem hi] at h9
        rw [Nat.zero_add]
        exact h9.1
      · rw [wk_length] at hj
        have h9 := (HR.out (j / 6) (by omega)).2 (j % 6) (Nat.mod_lt _ (by omega))
        rw [Nat.zero_add]
        have e : j / 6 * 6 + j % 6 = j := by omega
        rw [e] at h9
        exact h9

end Go.Proofs.YtejgcchkhljnjaaGreat.Aw2
