/- The walk of the program's HoldsFront: what is worth below no quantifier. -/
import Derived.Test.YtdmogjhabladcaaGreatFp2
import Derived.Test.YtdmogjhabladcaaGreatQi1
import Derived.Test.YtdmogjhabladcaaGreatFr4
import Derived.Test.YtdmogjhabladcaaGreatPkQ
import Derived.Test.YtdmogjhabladcaaGreatPkR
namespace Go.Proofs.YtdmogjhabladcaaGreat.Fp4
open Go.RowKit
open Nd0 Qa0 Pl1 Tm0 Tm1 Tm6 Tm8 Tr0 Rw0 Vl1 Vl2 Vm0 Vm2 Kp1 Pv7 Pv12 Pv15 Fr0 Fr1 Fr4 Qi0 Qi1 Fp1 Ic4
open Ws1 (ret_int ret_bool)
set_option linter.unusedVariables false

def agg (e : List Int) : Value := .agg #[.int .i64 (wd e 0), .int .i64 (wd e 1), .int .i64 (wd e 2), .int .i64 (wd e 3), .int .i64 (wd e 4), .int .i64 (wd e 5), .int .i64 (wd e 6), .int .i64 (wd e 7)]
/-- What worthBelow is to do with the quantifiers q. -/
def PWo (ws : List Int) (l : List Nd) (q : List Qu) : Prop := ∀ (w : World) (aq a : Option Addr) (cq c : Nat) (e : List Int), Qvs w aq q → q.length ≤ cq → Nodes w a l → EnvOk ws e →
    Calls Tryz.prog 66 #[.slice aq q.length cq, .slice a l.length c, agg e] w fun x w' => x = .returned (.int .i64 (hf q (root l) e)) ∧ Below w.heap.size w w'

theorem results_int {w : World} {g : Nat} {x : Int} {tmps : Array Value} (hp : tmps.getD 6 undef = .pointer (some ⟨g, 0, none⟩)) (hc : w.cell? ⟨g, 0, none⟩ = some (.int .i64 x)) :
    (results Tryz.f66 tmps).run Tryz.prog w = .ok (.int .i64 x) w := by
  have hp' : tmps[6]?.getD undef = .pointer (some ⟨g, 0, none⟩) := by simpa using hp
  simp [results, Tryz.results66, go_sem, hp', hc]

/-- Four blocks that are made one behind the other. -/
structure Four (w W : World) (c0 c1 c2 c3 : Array Value) : Prop where
  sz : W.heap.size = w.heap.size + 1 + 1 + 1 + 1
  below : Below w.heap.size w W
  a0 : ∀ (j : Nat) v, c0[j]? = some v → W.cell? ⟨w.heap.size, j, none⟩ = some v
  a1 : ∀ (j : Nat) v, c1[j]? = some v → W.cell? ⟨w.heap.size + 1, j, none⟩ = some v
  a2 : ∀ (j : Nat) v, c2[j]? = some v → W.cell? ⟨w.heap.size + 1 + 1, j, none⟩ = some v ∧ W.frozen? ⟨w.heap.size + 1 + 1, j, none⟩ = false
  a3 : ∀ (j : Nat) v, c3[j]? = some v → W.cell? ⟨w.heap.size + 1 + 1 + 1, j, none⟩ = some v ∧ W.frozen? ⟨w.heap.size + 1 + 1 + 1, j, none⟩ = false
theorem four (w W : World) (c0 c1 c2 c3 : Array Value) (t0 t1 t2 t3 : Nat) (h : W = (((w.alloc (.cells c0 t0)).alloc (.cells c1 t1)).alloc (.cells c2 t2)).alloc (.cells c3 t3)) : Four w W c0 c1 c2 c3 := by
  obtain ⟨wa, ha⟩ : ∃ wa, wa = w.alloc (.cells c0 t0) := ⟨_, rfl⟩
  obtain ⟨wb, hb⟩ : ∃ wb, wb = wa.alloc (.cells c1 t1) := ⟨_, rfl⟩
  obtain ⟨wc, hc⟩ : ∃ wc, wc = wb.alloc (.cells c2 t2) := ⟨_, rfl⟩
  rw [← ha, ← hb, ← hc] at h
  have sa : wa.heap.size = w.heap.size + 1 := by rw [ha]; simp
  have sb : wb.heap.size = w.heap.size + 1 + 1 := by rw [hb]; simp [sa]
  have sc : wc.heap.size = w.heap.size + 1 + 1 + 1 := by rw [hc]; simp [sb]
  have s1 : W.heap.size = w.heap.size + 1 + 1 + 1 + 1 := by rw [h]; simp [sc]
  have ba : Below w.heap.size w wa := by rw [ha]; exact (Below.refl _ _).alloc (Nat.le_refl _) _
  have bb : Below wa.heap.size wa wb := by rw [hb]; exact (Below.refl _ _).alloc (Nat.le_refl _) _
  have bc : Below wb.heap.size wb wc := by rw [hc]; exact (Below.refl _ _).alloc (Nat.le_refl _) _
  have b1 : Below wc.heap.size wc W := by rw [h]; exact (Below.refl _ _).alloc (Nat.le_refl _) _
  have bc1 : Below wb.heap.size wb W := bc.trans (b1.mono (by omega))
  have bb1 : Below wa.heap.size wa W := bb.trans (bc1.mono (by omega))
  refine ⟨s1, ba.trans (bb1.mono (by omega)), fun j v hv => ?_, fun j v hv => ?_, fun j v hv => ⟨?_, ?_⟩, fun j v hv => ⟨?_, ?_⟩⟩
  · rw [bb1.cell (p := ⟨w.heap.size, j, none⟩) (show w.heap.size < _ by omega), ha, World.cell?_alloc_new]; exact hv
  · rw [← sa, bc1.cell (p := ⟨wa.heap.size, j, none⟩) (show wa.heap.size < _ by omega), hb, World.cell?_alloc_new]; exact hv
  · rw [← sb, b1.cell (p := ⟨wb.heap.size, j, none⟩) (show wb.heap.size < _ by omega), hc, World.cell?_alloc_new]; exact hv
  · rw [← sb, b1.frozen (p := ⟨wb.heap.size, j, none⟩) (show wb.heap.size < _ by omega), hc]; simp
  · rw [← sc, h, World.cell?_alloc_new]; exact hv
  · rw [← sc, h]; simp

set_option maxRecDepth 100000 in
set_option maxHeartbeats 8000000 in
theorem wo_nil (hIA : IApply) {ws : List Int} {l : List Nd} (hT : termOk l = true) (hty : Ty ws (root l)) : PWo ws l [] := by
  intro w aq a cq c e hQ hcq hN hE
  obtain ⟨hl1, hl2⟩ := term_len hT
  have HN : Hid (Nodes w a l) := hN
  have HE : Hid (EnvOk ws e) := hE
  have HFN : Hid (FitN l (l.length - 1) e) := by
    obtain ⟨r, h1, h2⟩ := need_ty (root l) (rt_all (down_of hT) (fun k hk => term_node hT hk) (l.length - 1) (by omega)).1 hty
    exact ⟨r, h1, fits_ty h2 hE⟩
  have HV : Hid (hf [] (root l) e = vT (tr l (l.length - 1)) e) := rfl
  have HPV : Hid (PVal l (l.length - 1)) := pVal hIA hT hl2 (l.length - 1) (by omega)
  obtain ⟨zc, hzc⟩ : ∃ zc : Array Value, zc = Tryz.zeroCells76 := ⟨_, rfl⟩
  have hZ : Zc zc := by rw [hzc]; exact zc_of
  have hw1 : IntKind.i64.wrap ((l.length : Int) - 1) = (l.length : Int) - 1 := by rw [IntKind.wrap_i64] <;> omega
  have e1 : ((l.length - 1 : Nat) : Int) = (l.length : Int) - 1 := by omega
  clear hN hE hQ
  unfold agg
  rw [show ([] : List Qu).length = 0 from rfl]
  obtain ⟨W4, hW4⟩ : ∃ W4 : World, W4 = (((w.alloc (.cells #[.slice aq 0 cq] 83)).alloc (.cells #[.slice a l.length c] 24)).alloc (.cells #[.int .i64 (wd e 0), .int .i64 (wd e 1), .int .i64 (wd e 2), .int .i64 (wd e 3), .int .i64 (wd e 4), .int .i64 (wd e 5), .int .i64 (wd e 6), .int .i64 (wd e 7)] 72)).alloc (.cells #[.int .i64 0] 3) := ⟨_, rfl⟩
  have F := four w W4 _ _ _ _ _ _ _ _ hW4
  have hs4 := F.sz
  have HF : Hid (Four w W4 #[.slice aq 0 cq] #[.slice a l.length c] #[.int .i64 (wd e 0), .int .i64 (wd e 1), .int .i64 (wd e 2), .int .i64 (wd e 3), .int .i64 (wd e 4), .int .i64 (wd e 5), .int .i64 (wd e 6), .int .i64 (wd e 7)] #[.int .i64 0]) := F
  clear F
  go_enter Tryz.func66, Tryz.ntmps66
  go_wp2_with (rw [← hzc, ← hW4]; refine store_new _ rfl 76 (.tmp 7) (.tmp 17) rfl zc (scCells zc a l.length c e) _ rfl hs4.symm rfl (by rw [sc_size hZ]; exact info_sc) (by rw [sc_size hZ]; exact hZ.size) (sc_one hZ _ _ _ _) ?_; clear hzc; have hsc := (sc_new W4 hZ a l c 76 e).1; have hBW : Below W4.heap.size W4 (W4.alloc (.cells (scCells zc a l.length c e) 76)) := (Below.refl _ _).alloc (Nat.le_refl _) _; generalize W4.alloc (.cells (scCells zc a l.length c e) 76) = W5 at hsc hBW; rw [hs4] at hsc; have r1 : W5.cell? ⟨w.heap.size + 1, 0, none⟩ = some (.slice a l.length c) := (hBW.cell (p := ⟨w.heap.size + 1, 0, none⟩) (show w.heap.size + 1 < _ by omega)).trans (HF.out.a1 0 _ rfl); have HSC : Hid (Sc W5 (w.heap.size + 1 + 1 + 1 + 1) a l c e (fun _ => false) (fun _ => 0)) := hsc; have HBW : Hid (Below W4.heap.size W4 W5) := hBW; clear hsc hBW)
  have hN4 : Nodes W4 a l := HN.out.below HF.out.below
  have hblk : ∀ y, a = some y → y.block ≠ w.heap.size + 1 + 1 + 1 + 1 := fun y hy h => by
    rcases HN.out.2 with h0 | ⟨xb, xo, hx, hc⟩
    · omega
    · rw [hy] at hx
      have h9 := (hc 0 (by omega)).lt
      have h10 := Option.some.inj hx
      rw [h10] at h
      have : xb = w.heap.size + 1 + 1 + 1 + 1 := h
      omega
  have hcall := HPV.out W5 (w.heap.size + 1 + 1 + 1 + 1) a c e _ _ (hN4.below HBW.out) hblk HE.out.1 HSC.out HFN.out
  rw [e1] at hcall
  refine hcall.mono ?_
  rintro x0 w6 ⟨rfl, _, hK6⟩
  have q0 : w6.cell? ⟨w.heap.size + 1 + 1 + 1, 0, none⟩ = some (.int .i64 0) := by
    rw [hK6.cell (p := ⟨w.heap.size + 1 + 1 + 1, 0, none⟩) (show w.heap.size + 1 + 1 + 1 < _ by have := HBW.out.size; omega) (show ¬ w.heap.size + 1 + 1 + 1 = _ by omega), HBW.out.cell (p := ⟨w.heap.size + 1 + 1 + 1, 0, none⟩) (show w.heap.size + 1 + 1 + 1 < _ by omega)]
    exact (HF.out.a3 0 _ rfl).1
  have q1 : w6.frozen? ⟨w.heap.size + 1 + 1 + 1, 0, none⟩ = false := by
    rw [hK6.frozen (p := ⟨w.heap.size + 1 + 1 + 1, 0, none⟩) (show w.heap.size + 1 + 1 + 1 < _ by have := HBW.out.size; omega) (show ¬ w.heap.size + 1 + 1 + 1 = _ by omega), HBW.out.frozen (p := ⟨w.heap.size + 1 + 1 + 1, 0, none⟩) (show w.heap.size + 1 + 1 + 1 < _ by omega)]
    exact (HF.out.a3 0 (.int .i64 0) rfl).2
  have HB6 : Hid (Below w.heap.size w w6) := by
    have h1 : Below w.heap.size w W5 := HF.out.below.trans (HBW.out.mono (by omega))
    exact h1.trans (hK6.below (fun b (hb : b = w.heap.size + 1 + 1 + 1 + 1) => by omega) h1.size)
  clear hcall hK6 hN4 hblk hW4
  generalize vT (tr l (l.length - 1)) e = val at HV ⊢
  go_wp2
  refine bodyPost_ret (results_int rfl (set_same q0)) rfl ?_
  refine ⟨by rw [HV.out], ?_⟩
  exact HB6.out.setCell (p := ⟨w.heap.size + 1 + 1 + 1, 0, none⟩) (show w.heap.size ≤ w.heap.size + 1 + 1 + 1 by omega) _

end Go.Proofs.YtdmogjhabladcaaGreat.Fp4
