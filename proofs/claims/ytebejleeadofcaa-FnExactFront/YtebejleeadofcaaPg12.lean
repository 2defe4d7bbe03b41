/- The walk of the program's boundOnce. -/
import Derived.Test.YtebejleeadofcaaTm10
import Derived.Test.YtebejleeadofcaaPkXF34
import Derived.Test.YtebejleeadofcaaPkXF38
namespace Go.Proofs.Ytebejleeadofcaa.Pg12
open Go.RowKit
open Nd0 Pl1 Tm0 Tm1 Tm2 Tm4 Tm5 Tm6 Tm8 Tm9 Tm10 Ap0 Pg1 Rw0 Rw1
open Ws1 (ret_int ret_bool)
set_option linter.unusedVariables false

theorem zerosW : (#[.int .i64 0, .int .i64 0, .int .i64 0, .int .i64 0, .int .i64 0, .int .i64 0, .int .i64 0, .int .i64 0] : Array Value) = Array.replicate 8 (.int .i64 0) := rfl
theorem wd_rep (n i : Nat) : wd (List.replicate n 0) (i : Int) = 0 := by
  have := upto_zero n (i : Int)
  omega
theorem reach_step {l : List Nd} {y j : Nat} (hf : flag (reachL l) y = true) (h : (reachTo l y).length = j) : (reachTo l (y + 1)).length = j + 1 := by
  rw [reachTo_succ, hf, if_pos rfl, List.length_append, h]; rfl
theorem below_drewN {B : Nat} {u w : World} (h : Below B u w) (n : Nat) : Below B u (w.drewN n) := ⟨h.os, h.tape, h.output, h.size, h.block⟩

/-- The answer is true only where p, and false only where the term is no sentence. -/
def Tells (p : Prop) (l : List Nd) (e : Ending) : Prop := ∃ b, e = .returned (.bool b) ∧ (b = true → p) ∧ (b = false → sentB l = false)
theorem told_no {p : Prop} {l : List Nd} (h : sentB l = false) : Tells p l (.returned (.bool false)) := ⟨false, rfl, fun h => (by cases h), fun _ => h⟩
theorem told_yes {p : Prop} {l : List Nd} (h : p) : Tells p l (.returned (.bool true)) := ⟨true, rfl, fun _ => h, fun h => (by cases h)⟩

set_option maxRecDepth 100000 in
set_option maxHeartbeats 8000000 in
theorem iBound (w : World) (a a2 : Option Addr) (l : List Nd) (c c2 : Nat) (hN : Nodes w a l) (hT : termOk l = true) (hI : Ints w a2 (reachTo l l.length)) :
    Calls Try.prog 36 #[.slice a l.length c, .slice a2 (reachTo l l.length).length c2] w fun e w' => Tells (∃ ws, quantsTo l l.length = some ws ∧ Wid l ws) l e ∧ Below w.heap.size w w' := by
  have HN : Hid (Nodes w a l) := hN
  have HT : Hid (termOk l = true) := hT
  have HI : Hid (Ints w a2 (reachTo l l.length)) := hI
  obtain ⟨hl1, hl2⟩ := term_len hT
  have hRl := reachTo_length l l.length
  clear hN hT hI
  obtain ⟨g, hg⟩ : ∃ g : Nat, g = w.heap.size := ⟨_, rfl⟩
  have HG : Hid (g = w.heap.size) := hg
  have HR0 : Hid (Row (w.alloc (.cells #[.int .i64 0, .int .i64 0, .int .i64 0, .int .i64 0, .int .i64 0, .int .i64 0, .int .i64 0, .int .i64 0] 73)) g 8 (fun i => .int .i64 (wd (List.replicate 8 0) (i : Int)))) := by
    rw [hg]
    refine Row.new _ _ _ _ _ (fun i hi => ?_)
    rw [zerosW, Array.getElem?_replicate, if_pos hi, wd_rep]
  have HB0 : Hid (Below w.heap.size w (w.alloc (.cells #[.int .i64 0, .int .i64 0, .int .i64 0, .int .i64 0, .int .i64 0, .int .i64 0, .int .i64 0, .int .i64 0] 73))) := (Below.refl _ _).alloc (Nat.le_refl _) _
  go_enter Try.func36, Try.ntmps36
  go_wp2
  rw [← hg]
  clear hg
  generalize w.alloc (.cells #[.int .i64 0, .int .i64 0, .int .i64 0, .int .i64 0, .int .i64 0, .int .i64 0, .int .i64 0, .int .i64 0] 73) = wa at HR0 HB0 ⊢
  go_loopw [13] (fun q wr => ∃ j : Nat, j ≤ (reachTo l l.length).length ∧ q = .int .i64 j ∧ ∃ (x : Nat) (ws : List Int), (reachTo l x).length = j ∧ quantsTo l x = some ws ∧ Row wr g 8 (fun i => .int .i64 (wd ws (i : Int))) ∧ Below w.heap.size w wr) (fun q _ => (reachTo l l.length).length - (intOf q).toNat)
  case atStart => exact ⟨0, Nat.zero_le _, rfl, 0, _, rfl, rfl, HR0.out, HB0.out⟩
  case round =>
    clear HR0 HB0
    obtain ⟨j, hj, rfl, x, ws, hxj, hq, hr, hb⟩ := hrel
    have HXJ : Hid ((reachTo l x).length = j) := hxj
    have HQ : Hid (quantsTo l x = some ws) := hq
    have HR : Hid (Row wr g 8 (fun i => .int .i64 (wd ws (i : Int)))) := hr
    have HB : Hid (Below w.heap.size w wr) := hb
    have HWL : Hid (ws.length = 8) := quants_len hq
    clear hxj hq hr hb
    have hgl : g < wr.heap.size := HR.out.lt (by omega)
    by_cases hlt : j < (reachTo l l.length).length
    · have hjz : (j : Int) < ((reachTo l l.length).length : Int) := by omega
      obtain ⟨y, hy, hyl, hyf, hyj⟩ := reach_at l l.length j hlt
      rcases (HI.out.below HB.out).2 with h0 | ⟨pb, po, rfl, hpc⟩
      · omega
      have q0 := hpc j hlt
      rw [hy] at q0
      clear hpc hy
      rcases (HN.out.below HB.out).2 with h0 | ⟨xb, xo, rfl, hc⟩
      · omega
      have hyz : (y : Int) < (l.length : Int) := by omega
      obtain ⟨p0, p1, p2, p3, p4, p5⟩ := hc y hyl
      rw [nth_get hyl] at p0 p1 p2 p3 p4 p5
      clear hc
      have HYF : Hid (flag (reachL l) y = true) := hyf
      have HYJ : Hid ((reachTo l y).length = j) := hyj
      have HQY : Hid (quantsTo l y = some ws) := (quants_same l (by rw [HXJ.out, hyj])).trans HQ.out
      have HRS : Hid ((reachTo l (y + 1)).length = j + 1) := reach_step hyf hyj
      have HQS2 : Hid (quantsTo l (y + 1) = if quant (nth l y).op then (if wd ws (nth l y).k = 0 then some (ws.set (nth l y).k.toNat (nth l y).b) else none) else some ws) := by
        show _ = _
        rw [quants_succ HQY.out]; unfold qStep; rw [hyf, Bool.true_and]
      have HSV : Hid ((nth l y).op = 1 ∨ quant (nth l y).op = true → 0 ≤ (nth l y).k ∧ (nth l y).k ≤ 7) := shape_var (term_node HT.out hyl)
      clear hyf hyj
      generalize nth l y = n at p0 p1 p2 p3 p4 p5 HQS2 HSV
      cases hqu : quant n.op
      · have HQ2 : Hid (quantsTo l (y + 1) = some ws) := by
          show _ = _
          rw [HQS2.out, hqu]; rfl
        go_wp2_with (go_at_call 42; refine (iQuant _ _).mono ?_; rintro e w' ⟨rfl, rfl⟩; rw [hqu])
        go_roundw
        case rel => exact ⟨j + 1, by omega, by go_num, y + 1, ws, HRS.out, HQ2.out, HR.out.below ((Below.refl _ _).alloc (Nat.le_refl _) _), HB.out.alloc HB.out.size _⟩
        case measure => simp [intOf]; omega
      · obtain ⟨hk0, hk7⟩ := HSV.out (.inr hqu)
        obtain ⟨kk, hkk⟩ := Int.eq_ofNat_of_zero_le hk0
        rw [hkk] at p2 HQS2 hk7
        have hz8 : (kk : Int) < 8 := by omega
        obtain ⟨c1, c3⟩ := HR.out kk (by omega)
        try dsimp only at c1
        clear hkk hk0 HSV
        by_cases hz : wd ws (kk : Int) = 0
        · have HQ2 : Hid (quantsTo l (y + 1) = some (ws.set kk n.b)) := by
            show _ = _
            rw [HQS2.out, hqu, if_pos rfl, if_pos hz]; rfl
          rw [hz] at c1
          go_wp2_with (go_at_call 42; refine (iQuant _ _).mono ?_; rintro e w' ⟨rfl, rfl⟩; rw [hqu])
          go_roundw
          case rel =>
            have hB2 : Below w.heap.size w (World.setCell _ ⟨g, kk, none⟩ (.int .i64 n.b)) := HB.out.trans (((Kept.refl (fun b => b = g) _).setCell (p := ⟨g, kk, none⟩) rfl _).below (fun b (hb : b = g) => by have := HG.out; omega) HB.out.size)
            exact ⟨j + 1, by omega, by go_num, y + 1, ws.set kk n.b, HRS.out, HQ2.out, (row_set_int HR.out HWL.out (by omega) _).below ((Below.refl _ _).alloc (Nat.le_refl _) _), hB2.alloc hB2.size _⟩
          case measure => simp [intOf]; omega
        · have HF : Hid (sentB l = false) := sent_quants (k := y + 1) (by omega) (by rw [HQS2.out, hqu, if_pos rfl, if_neg hz])
          have hzb : (wd ws (kk : Int) != 0) = true := by simpa using hz
          generalize wd ws (kk : Int) = z at c1 hz hzb
          go_wp2_with (go_at_call 42; refine (iQuant _ _).mono ?_; rintro e w' ⟨rfl, rfl⟩; rw [hqu])
          go_ret
          exact ⟨told_no HF.out, HB.out.alloc HB.out.size _⟩
    · have hjz : ¬ (j : Int) < ((reachTo l l.length).length : Int) := by omega
      have HQE : Hid (quantsTo l l.length = some ws) := (quants_same l (by rw [HXJ.out]; omega)).trans HQ.out
      obtain ⟨w9, rfl⟩ : ∃ w9 : World, w9 = wr := ⟨_, rfl⟩
      go_wp2
      go_loopw [38] (fun q wr => ∃ j : Nat, j ≤ (reachTo l l.length).length ∧ q = .int .i64 j ∧ (∀ i, i < l.length → flag (reachL l) i = true → (reachTo l i).length < j → (nth l i).op = 1 → (nth l i).w = wd ws (nth l i).k) ∧ ∃ m, wr = w9.drewN m) (fun q _ => (reachTo l l.length).length - (intOf q).toNat)
      case atStart => exact ⟨0, Nat.zero_le _, rfl, fun i _ _ h => by omega, 0, rfl⟩
      case round =>
        obtain ⟨j2, hj2, rfl, hall, m, rfl⟩ := hrel
        have HALL : Hid (∀ i, i < l.length → flag (reachL l) i = true → (reachTo l i).length < j2 → (nth l i).op = 1 → (nth l i).w = wd ws (nth l i).k) := hall
        clear hall
        by_cases hlt2 : j2 < (reachTo l l.length).length
        · have hjz2 : (j2 : Int) < ((reachTo l l.length).length : Int) := by omega
          obtain ⟨y, hy, hyl, hyf, hyj⟩ := reach_at l l.length j2 hlt2
          rcases (HI.out.below HB.out).2 with h0 | ⟨pb, po, rfl, hpc⟩
          · omega
          have q0 := hpc j2 hlt2
          rw [hy] at q0
          clear hpc hy
          rcases (HN.out.below HB.out).2 with h0 | ⟨xb, xo, rfl, hc⟩
          · omega
          have hyz : (y : Int) < (l.length : Int) := by omega
          obtain ⟨p0, p1, p2, p3, p4, p5⟩ := hc y hyl
          rw [nth_get hyl] at p0 p1 p2 p3 p4 p5
          clear hc p3 p4 p5
          have HSV : Hid ((nth l y).op = 1 ∨ quant (nth l y).op = true → 0 ≤ (nth l y).k ∧ (nth l y).k ≤ 7) := shape_var (term_node HT.out hyl)
          have HNX : Hid (((nth l y).op = 1 → (nth l y).w = wd ws (nth l y).k) → ∀ i, i < l.length → flag (reachL l) i = true → (reachTo l i).length < j2 + 1 → (nth l i).op = 1 → (nth l i).w = wd ws (nth l i).k) := by
            show _ → _
            intro h i hi hf hij
            by_cases e : (reachTo l i).length = j2
            · have : i = y := reachTo_inj l hf hyf (by rw [e, hyj])
              subst this; exact h
            · exact HALL.out i hi hf (by omega)
          have HBD : Hid ((nth l y).op = 1 → (nth l y).w ≠ wd ws (nth l y).k → sentB l = false) := fun h1 h2 => sent_wid HQE.out hyl hyf h1 h2
          clear hyf hyj
          generalize nth l y = n at p0 p1 p2 HSV HNX HBD
          cases h1 : (n.op == 1)
          · have HNX2 := HNX.out (fun h => by rw [h] at h1; simp at h1)
            have HNX3 : Hid (∀ i, i < l.length → flag (reachL l) i = true → (reachTo l i).length < j2 + 1 → (nth l i).op = 1 → (nth l i).w = wd ws (nth l i).k) := HNX2
            clear HNX2
            go_wp2
            refine wp_region_quiet_lit (by kernel_rfl) (by kernel_rfl) ?_
            repeat (first | go_big_quiet_step (fail) | quiet_step (fail))
            refine wpQuiet_nil ?_
            intro _ hw'
            obtain ⟨nq, hw''⟩ := hw'
            subst hw''
            go_wp2
            go_roundw
            case rel => exact ⟨j2 + 1, by omega, by go_num, HNX3.out, _, rfl⟩
            case measure => simp [intOf]; omega
          · have h1' : n.op = 1 := by simpa using h1
            obtain ⟨hk0, hk7⟩ := HSV.out (.inl h1')
            obtain ⟨kk, hkk⟩ := Int.eq_ofNat_of_zero_le hk0
            rw [hkk] at p2 HNX HBD hk7
            have hz8 : (kk : Int) < 8 := by omega
            have c5 := (HR.out kk (by omega)).1
            try dsimp only at c5
            have HBD2 : Hid (n.w ≠ wd ws (kk : Int) → sentB l = false) := fun h => HBD.out h1' h
            clear hkk hk0 HSV h1' HBD
            cases hwd : (n.w != wd ws (kk : Int))
            · have HNX3 : Hid (∀ i, i < l.length → flag (reachL l) i = true → (reachTo l i).length < j2 + 1 → (nth l i).op = 1 → (nth l i).w = wd ws (nth l i).k) := HNX.out (fun _ => by simpa using hwd)
              clear HNX HBD2
              generalize wd ws (kk : Int) = z at c5 hwd
              go_wp2
              refine wp_region_quiet_lit (by kernel_rfl) (by kernel_rfl) ?_
              repeat (first | go_big_quiet_step (fail) | quiet_step (fail))
              refine wpQuiet_nil ?_
              intro _ hw'
              obtain ⟨nq, hw''⟩ := hw'
              subst hw''
              go_wp2
              go_roundw
              case rel => exact ⟨j2 + 1, by omega, by go_num, HNX3.out, _, rfl⟩
              case measure => simp [intOf]; omega
            · have HF : Hid (sentB l = false) := HBD2.out (by simpa using hwd)
              clear HNX HBD2
              generalize wd ws (kk : Int) = z at c5 hwd
              go_wp2
              refine wp_region_quiet_lit (by kernel_rfl) (by kernel_rfl) ?_
              repeat (first | go_big_quiet_step (fail) | quiet_step (fail))
              refine wpQuiet_nil ?_
              intro _ hw'
              obtain ⟨nq, hw''⟩ := hw'
              subst hw''
              go_wp2
              go_ret
              exact ⟨told_no HF.out, below_drewN (below_drewN HB.out _) _⟩
        · have hjz2 : ¬ (j2 : Int) < ((reachTo l l.length).length : Int) := by omega
          have HW : Hid (Wid l ws) := fun i hi hf ho => HALL.out i hi hf (by have := reachTo_lt l hi hf; omega) ho
          go_wp2
          go_ret
          exact ⟨told_yes ⟨ws, HQE.out, HW.out⟩, below_drewN HB.out _⟩

end Go.Proofs.Ytebejleeadofcaa.Pg12
