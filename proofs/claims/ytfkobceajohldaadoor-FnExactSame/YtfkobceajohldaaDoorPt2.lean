/- The walk of the program's ShowTerm. -/
import Derived.Laws.MakeOwn
import Derived.Test.YtfkobceajohldaaDoorPt1
import Derived.Test.YtfkobceajohldaaDoorPg7
import Derived.Test.YtfkobceajohldaaDoorTx6
import Derived.Test.YtfkobceajohldaaDoorIc2
import Derived.Test.YtfkobceajohldaaDoorIc3
import Derived.Test.YtfkobceajohldaaDoorPkA
namespace Go.Proofs.YtfkobceajohldaaDoor.Pt2
open Go.RowKit
open Nd0 Nd3 Tm0 Tm1 Tm2 Tm8 Tx0 Tx2 Tx5 Tx6 Ss0 Ss1 Ss2 Ss10 Ap4 Rw0 Tb0 Pt1 Ic3
open Lx1 (ITermOk)
open Lx2 (IReached)
set_option linter.unusedVariables false

/-- n empty texts. -/
def blanks (n : Nat) : Array Value := madeCells #[.string ⟨#[]⟩] (n * 1)
theorem blanks_get (n j : Nat) (h : j < n) : (blanks n)[j]? = some (.string (bs [])) := by
  simp only [blanks, madeCells, Array.getElem?_map, Array.getElem?_range]
  rw [if_pos (by omega)]
  simp only [Option.map_some, List.size_toArray, List.length_cons, List.length_nil, Nat.zero_add, Nat.mod_one]
  rfl
theorem makeStrs (n : Nat) (hn : n ≤ 1048576) (w : World) :
    (Instr.makeSlice 36 (.int .i64 (n : Int)) (.int .i64 (n : Int))).run Tryd.prog w = .ok (.slice (some ⟨w.heap.size, 0, none⟩) n n) (w.alloc (.cells (blanks n) 9)) := by
  obtain ⟨i, hi, hzz⟩ := Option.map_eq_some_iff.1 infoStr
  simp only [Prod.mk.injEq] at hzz
  obtain ⟨hz, hs, hb⟩ := hzz
  have h := run_make (P := Tryd.prog) w 36 9 i _ Tryd.underlying36 hi hz .i64 .i64 n n (by omega) (Int.le_refl _) (by rw [hb]; omega) (by omega)
  rw [hs] at h
  simpa [blanks, Value.cells] using h
theorem row_strs {w : World} {g : Nat} {l : List Nd} {k : Nat} (h : Row w g l.length (fun i => .string (bs (pt l k i)))) (hl : l.length ≤ 1048576) : Strs w (some ⟨g, 0, none⟩) (pts l k) := by
  refine ⟨by rw [pts_length]; unfold maxLen; omega, .inr ⟨g, 0, rfl, fun i hi => ?_⟩⟩
  have hil : i < l.length := by rw [pts_length] at hi; exact hi
  rw [Nat.zero_add, pts_get, (h i hil).1]
theorem iNodeTextL (n : Nd) (w : World) (ta : Option Addr) (ts : List (List UInt8)) (tc m : Nat) (y : List UInt8) (hm : ts.length = m) (hy : progN n ts = y) (hT : Tabs w) (hS : Strs w ta ts) (hW : Ss9.Wr n m) (hl : ∀ t ∈ ts, t.length ≤ 4000) :
    Calls Tryd.prog 22 #[.agg #[.int .i64 n.op, .int .i64 n.w, .int .i64 n.k, .int .i64 n.a, .int .i64 n.b, .int .i64 n.c], .slice ta m tc] w fun e w' => e = .returned (.string (bs y)) ∧ Below w.heap.size w w' := by
  subst hm; subst hy
  exact iNodeText n w ta ts tc hT hS hW hl

set_option maxRecDepth 100000 in
set_option maxHeartbeats 4000000 in
theorem iShowTermOf (hTO : ITermOk) (hRE : IReached) : IShowTerm := by
  intro w a l c hTb hN hcap hlen
  have HN : Hid (Nodes w a l) := hN
  have HTB : Hid (Tabs w) := hTb
  have HTO : Hid ITermOk := hTO
  have HRE : Hid IReached := hRE
  have HCAP : Hid (l.length ≤ c) := hcap
  clear hcap hN hTO hRE hTb
  go_enter Tryd.func9, Tryd.ntmps9
  go_wp2_with fail
  refine (HTO.out _ a l c HN.out HCAP.out hlen).mono ?_
  rintro e w1 ⟨rfl, hb1⟩
  have HB1 : Hid (Below w.heap.size w w1) := hb1
  clear hb1
  cases hT : termOk l
  · have HE : Hid (showL l = []) := by
      show _ = _
      unfold showL; rw [hT]; rfl
    go_wp2
    go_ret2
    rw [HE.out, has_false HE.out]
    exact ⟨rfl, HB1.out⟩
  · have HT : Hid (termOk l = true) := hT
    obtain ⟨hl1, hl2⟩ := term_len hT
    clear hT
    have hmk := makeStrs l.length hlen
    go_wp2_with fail
    clear hmk
    have hAl : Below w1.heap.size w1 (w1.alloc (.cells (blanks l.length) 9)) := (Below.refl _ _).alloc (Nat.le_refl _) _
    have HRW0 : Hid (Row (w1.alloc (.cells (blanks l.length) 9)) w1.heap.size l.length (fun i => .string (bs (pt l 0 i)))) := Row.new _ _ _ _ _ (fun i hi => by rw [pt_zero]; exact blanks_get _ _ hi)
    refine (HRE.out _ a l c ((HN.out.below HB1.out).below hAl) HCAP.out hlen).mono ?_
    rintro e w2 ⟨⟨a2, c2, rfl, hi2⟩, hb2⟩
    have hszA : (w1.alloc (.cells (blanks l.length) 9)).heap.size = w1.heap.size + 1 := by simp
    have HR2 : Hid (Row w2 w1.heap.size l.length (fun i => .string (bs (pt l 0 i)))) := HRW0.out.below hb2
    have HRE2 : Hid (reachedL l = reachTo l l.length) := by
      show _ = _
      unfold reachedL; rw [HT.out]; rfl
    have HI2 : Hid (IntsIn w2 (w1.heap.size + 1) w2.heap.size a2 (reachTo l l.length)) := by
      have h9 := hi2.within
      rw [hszA, HRE2.out] at h9
      exact h9
    have HB2 : Hid (Below w.heap.size w w2) := (HB1.out.trans (hAl.mono HB1.out.size)).trans (hb2.mono (by have := HB1.out.size; omega))
    have hs2 : w1.heap.size + 1 ≤ w2.heap.size := by rw [← hszA]; exact hb2.size
    have HW1 : Hid (w.heap.size ≤ w1.heap.size) := HB1.out.size
    clear hi2 hb2 hAl HRW0 hszA
    rw [HRE2.out]
    obtain ⟨gp, hgp⟩ : ∃ gp : Nat, gp = w1.heap.size := ⟨_, rfl⟩
    rw [← hgp] at HR2 HI2 HW1 hs2 ⊢
    clear hgp
    have hRl := reachTo_length l l.length
    go_wp2_with fail
    go_loopw [16] (fun q wr => ∃ k : Nat, k ≤ (reachTo l l.length).length ∧ q = .int .i64 k ∧ Row wr gp l.length (fun i => .string (bs (pt l k i))) ∧ Below w.heap.size w wr ∧ IntsIn wr (gp + 1) w2.heap.size a2 (reachTo l l.length) ∧ w2.heap.size ≤ wr.heap.size ∧ (∀ i, i < l.length → flag (reachL l) i = true → (reachTo l i).length < k → X l i ≠ [])) (fun q _ => (reachTo l l.length).length - (intOf q).toNat)
    case atStart => exact ⟨0, Nat.zero_le _, rfl, HR2.out, HB2.out, HI2.out, Nat.le_refl _, fun i _ _ h => by omega⟩
    case round =>
      clear HB2 HR2 HI2
      obtain ⟨k, hk, rfl, hr, hb, hi, hsz, hd⟩ := hrel
      have HB : Hid (Below w.heap.size w wr) := hb
      have HR : Hid (Row wr gp l.length (fun i => .string (bs (pt l k i)))) := hr
      have HI : Hid (IntsIn wr (gp + 1) w2.heap.size a2 (reachTo l l.length)) := hi
      have HD : Hid (∀ i, i < l.length → flag (reachL l) i = true → (reachTo l i).length < k → X l i ≠ []) := hd
      have HSZ : Hid (w2.heap.size ≤ wr.heap.size) := hsz
      have hBs : w.heap.size ≤ wr.heap.size := hb.size
      clear hb hr hi hd hsz
      by_cases hlt : k < (reachTo l l.length).length
      · have hjz : (k : Int) < ((reachTo l l.length).length : Int) := by omega
        obtain ⟨x, hx, hxl, hxf, hxj⟩ := reach_at l l.length k hlt
        rcases HI.out.2 with h0 | ⟨pb, po, rfl, hpB, hpU, hpc⟩
        · omega
        have q0 := (hpc k hlt).1
        rw [hx] at q0
        clear hpc hx
        have hxz : (x : Int) < (l.length : Int) := by omega
        have HXF : Hid (flag (reachL l) x = true) := hxf
        have HXJ : Hid ((reachTo l x).length = k) := hxj
        have HST := step_text HT.out hxl hxf hxj HD.out
        have HWR : Hid (Ss9.Wr (nth l x) l.length) := wr_at HT.out hxl
        clear hxf hxj
        rcases (HN.out.below HB.out).2 with h0 | ⟨xb, xo, rfl, hc⟩
        · omega
        obtain ⟨p0, p1, p2, p3, p4, p5⟩ := hc x hxl
        rw [nth_get hxl] at p0 p1 p2 p3 p4 p5
        clear hc
        generalize nth l x = n at p0 p1 p2 p3 p4 p5 HST HWR
        obtain ⟨y, hy⟩ : ∃ y, progN n (pts l k) = y := ⟨_, rfl⟩
        rw [hy] at HST
        have HY : Hid (progN n (pts l k) = y) := hy
        have HS : Hid (X l x = if 4000 < y.length then [] else y) := HST
        clear hy HST
        go_wp2_with fail
        refine (iNodeTextL n wr _ (pts l k) l.length l.length y (pts_length l k) HY.out (HTB.out.below HB.out) (row_strs HR.out hlen) HWR.out (pts_short HT.out k)).mono ?_
        rintro e w3 ⟨rfl, hb3⟩
        have HR3 : Hid (Row w3 gp l.length (fun i => .string (bs (pt l k i)))) := HR.out.below hb3
        have HI3 : Hid (IntsIn w3 (gp + 1) w2.heap.size (some ⟨pb, po, none⟩) (reachTo l l.length)) := HI.out.kept (S := fun _ => False) (Kept.ofBelow hb3) (fun _ _ _ h => h)
        have HB3 : Hid (Below w.heap.size w w3) := HB.out.trans (hb3.mono hBs)
        have HSZ3 : Hid (w2.heap.size ≤ w3.heap.size) := Nat.le_trans HSZ.out hb3.size
        obtain ⟨c1, c3⟩ := HR3.out x hxl
        clear hb3 p0 p1 p2 p3 p4 p5 q0
        have c4 : (w3.setCell ⟨gp, x, none⟩ (.string (bs y))).cell? ⟨gp, x, none⟩ = some (.string (bs y)) := set_same c1
        have hys : (bs y).size = y.length := bs_size y
        have HKS : Hid (Kept (fun b => b = gp) w3 (w3.setCell ⟨gp, x, none⟩ (.string (bs y)))) := (Kept.refl (fun b => b = gp) w3).setCell (p := ⟨gp, x, none⟩) rfl _
        have HBS : Hid (Below w.heap.size w (w3.setCell ⟨gp, x, none⟩ (.string (bs y)))) := HB3.out.trans (HKS.out.below (fun b (hb : b = gp) => by have := HW1.out; omega) HB3.out.size)
        by_cases h4 : 4000 < y.length
        · have h4z : (4000 : Int) < ((bs y).size : Int) := by rw [hys]; omega
          have HE : Hid (showL l = []) := by
            show _ = _
            rw [show_root HT.out hl1]
            exact root_none (down_of HT.out) _ x (Nat.le_refl _) hxl HXF.out (by rw [HS.out, if_pos h4])
          clear hys
          go_wp2
          go_ret2
          rw [HE.out, has_false HE.out]
          exact ⟨rfl, HBS.out⟩
        · have h4z : ¬ (4000 : Int) < ((bs y).size : Int) := by rw [hys]; omega
          have HXY : Hid (X l x = y) := by show _ = _; rw [HS.out, if_neg h4]
          have HRS : Hid (Row (w3.setCell ⟨gp, x, none⟩ (.string (bs y))) gp l.length (fun i => .string (bs (pt l (k + 1) i)))) := by
            refine (HR3.out.set hxl _).congr (fun i hi => ?_)
            rw [pt_succ HXF.out HXJ.out, HXY.out]
            by_cases e : i = x
            · simp [e]
            · simp [e]
          have HIS : Hid (IntsIn (w3.setCell ⟨gp, x, none⟩ (.string (bs y))) (gp + 1) w2.heap.size (some ⟨pb, po, none⟩) (reachTo l l.length)) := HI3.out.kept HKS.out (fun b h1 h2 e => by omega)
          have HSS : Hid (w2.heap.size ≤ (w3.setCell ⟨gp, x, none⟩ (.string (bs y))).heap.size) := by
            have : (w3.setCell ⟨gp, x, none⟩ (.string (bs y))).heap.size = w3.heap.size := by simp [World.setCell]
            show _ ≤ _
            rw [this]; exact HSZ3.out
          have HDS : Hid (∀ i, i < l.length → flag (reachL l) i = true → (reachTo l i).length < k + 1 → X l i ≠ []) := by
            show ∀ _, _
            intro i hi hf hl9
            by_cases e : (reachTo l i).length < k
            · exact HD.out i hi hf e
            · have ei : i = x := reachTo_inj l hf HXF.out (by have := HXJ.out; omega)
              rw [ei, HXY.out, ← HY.out]
              exact prog_some _ _
          clear hys
          go_wp2
          go_roundw
          case rel => exact ⟨k + 1, by omega, by go_num, HRS.out, HBS.out, HIS.out, HSS.out, HDS.out⟩
          case measure => simp [intOf]; omega
      · have hjz : ¬ (k : Int) < ((reachTo l l.length).length : Int) := by omega
        have hroot := reach_root (l := l) hl1
        have hrk : (reachTo l (l.length - 1)).length < k := by
          have := reachTo_lt l (a := l.length - 1) (b := l.length) (by omega) hroot
          omega
        have HX : Hid (pt l k (l.length - 1) = showL l) := by
          show _ = _
          unfold pt
          rw [if_pos ⟨hroot, hrk⟩, show_root HT.out hl1]
        have HNE : Hid (showL l ≠ []) := by
          show _ ≠ _
          rw [show_root HT.out hl1]
          exact HD.out _ (by omega) hroot hrk
        have c1 : wr.cell? ⟨gp, l.length - 1, none⟩ = some (.string (bs (showL l))) := by rw [← HX.out]; exact (HR.out (l.length - 1) (by omega)).1
        have hlz : (l.length : Int) - 1 < (l.length : Int) := by omega
        have hl0 : 0 ≤ (l.length : Int) - 1 := by omega
        clear hroot hrk
        go_wp2
        go_ret2
        rw [has_true HNE.out]
        exact ⟨rfl, HB.out⟩

end Go.Proofs.YtfkobceajohldaaDoor.Pt2
