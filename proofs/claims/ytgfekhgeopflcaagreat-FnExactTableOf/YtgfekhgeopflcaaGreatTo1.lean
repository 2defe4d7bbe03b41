/- The program's varsAt: what the variables are at a place. -/
import Derived.Deep.RegionHeld
import Derived.Test.YtgfekhgeopflcaaGreatPkT612
import Derived.Test.YtgfekhgeopflcaaGreatFp1
import Derived.Test.YtgfekhgeopflcaaGreatPkT613
namespace Go.Proofs.YtgfekhgeopflcaaGreat.To1
open Go.RowKit
open Nd0 Qa0 Tm0 Tm1 Tm6 Rw0 Rw1 Kp1 Fr0 Fp1 To0
open Pl1 (p2)
open Fm1 (quAt below_drewN)
set_option linter.unusedVariables false

/-- The eight numbers of an environment, as an array. -/
def aggE (e : List Int) : Value := .agg #[.int .i64 (wd e 0), .int .i64 (wd e 1), .int .i64 (wd e 2), .int .i64 (wd e 3), .int .i64 (wd e 4), .int .i64 (wd e 5), .int .i64 (wd e 6), .int .i64 (wd e 7)]
set_option maxRecDepth 100000 in
set_option maxHeartbeats 1000000 in
theorem results_vars {w : World} {gr : Nat} {r : Nat → Int} {tmps : Array Value} (hp : tmps.getD 4 undef = .pointer (some ⟨gr, 0, none⟩)) (hc : ∀ v : Nat, v < 8 → w.cell? ⟨gr, v, none⟩ = some (.int .i64 (r v))) :
    (results Tryz.f24 tmps).run Tryz.prog w = .ok (aggI r) w := by
  have hr : w.rangeAt gr 0 (listI r) := fun j v hv => by
    rw [Nat.zero_add]
    have hj : j < 8 := by
      have := (List.getElem?_eq_some_iff.1 hv).1
      simpa [listI] using this
    rw [hc j hj]
    rcases (show j = 0 ∨ j = 1 ∨ j = 2 ∨ j = 3 ∨ j = 4 ∨ j = 5 ∨ j = 6 ∨ j = 7 by omega) with h | h | h | h | h | h | h | h <;> subst h <;> exact hv
  have hl := run_loadVar_mid (P := Tryz.prog) w gr 0 62 (listI r) _ hr Tryz.underlying62 rfl rfl
  have hp' : tmps[4]?.getD undef = .pointer (some ⟨gr, 0, none⟩) := by simpa using hp
  simp [results, hp', asAddr, hl]
  rfl
theorem row_list {w : World} {g : Nat} {ws us : List Int} (h : Row w g 8 (fun i => .int .i64 (wd ws (i : Int)))) (e : ws = us) : Row w g 8 (fun i => .int .i64 (wd us (i : Int))) := by rw [← e]; exact h
theorem past8 {w wr : World} {gr : Nat} (hb : Below w.heap.size w wr) (hg : w.heap.size ≤ gr) (v0 v1 v2 v3 v4 v5 v6 v7 : Value) : Below w.heap.size w ((((((((wr.setCell ⟨gr, 0, none⟩ v0).setCell ⟨gr, 1, none⟩ v1).setCell ⟨gr, 2, none⟩ v2).setCell ⟨gr, 3, none⟩ v3).setCell ⟨gr, 4, none⟩ v4).setCell ⟨gr, 5, none⟩ v5).setCell ⟨gr, 6, none⟩ v6).setCell ⟨gr, 7, none⟩ v7) :=
  hb.trans ((kept_set8 (S := fun b => b = gr) (Kept.refl _ wr) rfl v0 v1 v2 v3 v4 v5 v6 v7).below (fun b (h : b = gr) => by omega) hb.size)
theorem cut_mod (x b : Nat) (hb : b ≤ 8) : ((x : Int) % 256) % ((2 ^ b : Nat) : Int) = ((x % 2 ^ b : Nat) : Int) := by
  have h : (2 ^ b : Nat) ∣ 256 := by
    rcases (show b = 0 ∨ b = 1 ∨ b = 2 ∨ b = 3 ∨ b = 4 ∨ b = 5 ∨ b = 6 ∨ b = 7 ∨ b = 8 by omega) with h | h | h | h | h | h | h | h | h <;> subst h <;> decide
  have h2 : x % 256 % 2 ^ b = x % 2 ^ b := Nat.mod_mod_of_dvd x h
  rw [← h2]
  generalize 2 ^ b = m
  rw [Int.natCast_emod, Int.natCast_emod]
  rfl
theorem shr64 (x b : Nat) (hb : b ≤ 8) : Op.shift .shr .i64 (x : Int) .i64 (b : Int) = pure (.int .i64 ((x / 2 ^ b : Nat) : Int)) := by
  have hm : min ((b : Int)).toNat 64 = b := by omega
  have hn : ¬ (b : Int) < 0 := by omega
  simp only [Op.shift, IntKind.bits, hm, if_neg hn]
  have : (x : Int).fdiv (2 ^ b) = ((x / 2 ^ b : Nat) : Int) := by
    rw [Int.fdiv_eq_ediv_of_nonneg _ (Int.le_of_lt (Int.pow_pos (by decide)))]
    push_cast
    rfl
  rw [this]

set_option maxRecDepth 100000 in
set_option maxHeartbeats 8000000 in
theorem iVarsAt (w : World) (aq : Option Addr) (q : List Qu) (cq p : Nat) (hN : Qus w aq q) (hl : q.length ≤ 1048576) (hty : ∀ i, i < q.length → 0 ≤ (qth q i).vr ∧ (qth q i).vr ≤ 7 ∧ 1 ≤ (qth q i).bits ∧ (qth q i).bits ≤ 8) (hp : p ≤ 1048576) :
    Calls Tryz.prog 24 #[.slice aq q.length cq, .int .i64 (p : Int)] w fun e w' => e = .returned (aggE (envL q p)) ∧ Below w.heap.size w w' := by
  have HN : Hid (Qus w aq q) := hN
  have HTY : Hid (∀ i, i < q.length → 0 ≤ (qth q i).vr ∧ (qth q i).vr ≤ 7 ∧ 1 ≤ (qth q i).bits ∧ (qth q i).bits ≤ 8) := hty
  clear hN hty
  obtain ⟨gr, hgr⟩ : ∃ gr : Nat, gr = w.heap.size := ⟨_, rfl⟩
  obtain ⟨g, hg⟩ : ∃ g : Nat, g = w.heap.size + 1 := ⟨_, rfl⟩
  obtain ⟨z8, hz8⟩ : ∃ z8 : Obj, z8 = .cells #[.int .i64 0, .int .i64 0, .int .i64 0, .int .i64 0, .int .i64 0, .int .i64 0, .int .i64 0, .int .i64 0] 62 := ⟨_, rfl⟩
  obtain ⟨wa, hwa⟩ : ∃ wa : World, wa = (w.alloc z8).alloc z8 := ⟨_, rfl⟩
  have hsa : wa.heap.size = w.heap.size + 2 := by rw [hwa]; simp
  have hBz : Below w.heap.size w (w.alloc z8) := (Below.refl _ _).alloc (Nat.le_refl _) _
  have hBa : Below (w.alloc z8).heap.size (w.alloc z8) wa := by rw [hwa]; exact (Below.refl _ _).alloc (Nat.le_refl _) _
  have HBA : Hid (Below w.heap.size w wa) := hBz.trans (hBa.mono (by simp))
  have hnew : ∀ W : World, Row (W.alloc z8) W.heap.size 8 (fun i => .int .i64 (wd (List.replicate 8 0) (i : Int))) := fun W => by
    rw [hz8]
    exact Row.new _ _ _ _ _ (fun i hi => by
      rcases (show i = 0 ∨ i = 1 ∨ i = 2 ∨ i = 3 ∨ i = 4 ∨ i = 5 ∨ i = 6 ∨ i = 7 by omega) with h | h | h | h | h | h | h | h <;> subst h <;> rfl)
  have HR0 : Hid (Row wa g 8 (fun i => .int .i64 (wd (List.replicate 8 0) (i : Int)))) := by
    have h := hnew (w.alloc z8)
    rw [← hwa, show (w.alloc z8).heap.size = g by rw [hg]; simp] at h
    exact h
  have HRR : Hid (Row wa gr 8 (fun _ => .int .i64 0)) := by
    refine Row.below ?_ hBa
    rw [hgr]
    exact (hnew w).congr (fun i hi => by rw [wd_zero8 hi])
  have HG : Hid (gr = w.heap.size ∧ g = w.heap.size + 1 ∧ wa.heap.size = w.heap.size + 2) := ⟨hgr, hg, hsa⟩
  have hw1 : IntKind.i64.wrap ((q.length : Int) - 1) = (q.length : Int) - 1 := by rw [IntKind.wrap_i64] <;> omega
  rw [hz8] at hwa
  clear hBz hBa hnew hsa hz8
  go_enter Tryz.func24, Tryz.ntmps24
  go_wp2
  rw [← hwa, ← hg, ← hgr]
  clear hwa hg hgr
  go_loopw [6, 1] (fun x y wr => ∃ k pl : Nat, k ≤ q.length ∧ x = .int .i64 ((k : Int) - 1) ∧ y = .int .i64 (pl : Int) ∧ pl = p / 2 ^ bitL (q.drop k) ∧ Row wr g 8 (fun i => .int .i64 (wd (envL (q.drop k) p) (i : Int))) ∧ Kept (fun b => b = g) wa wr) (fun x _ _ => (intOf x + 1).toNat)
  case atStart => exact ⟨q.length, p, Nat.le_refl _, rfl, rfl, by rw [List.drop_length]; simp [bitL], row_list HR0.out (by rw [List.drop_length]; rfl), Kept.refl _ _⟩
  case round =>
    obtain ⟨k, pl, hk, rfl, rfl, hpl, hr, hkk⟩ := hrel
    have hpm : pl ≤ 1048576 := by rw [hpl]; exact Nat.le_trans (Nat.div_le_self _ _) hp
    have HPL : Hid (pl = p / 2 ^ bitL (q.drop k)) := hpl
    have HR : Hid (Row wr g 8 (fun i => .int .i64 (wd (envL (q.drop k) p) (i : Int)))) := hr
    have HK : Hid (Kept (fun b => b = g) wa wr) := hkk
    have HGR : Hid (gr < wr.heap.size ∧ g < wr.heap.size ∧ gr ≠ g) := by
      have h1 := HG.out
      have h2 := hkk.size
      exact ⟨by omega, by omega, by omega⟩
    have HBW : Hid (Below w.heap.size w wr) := by
      have h1 := HG.out
      exact HBA.out.trans (hkk.below (fun b (hb : b = g) => by omega) HBA.out.size)
    have HRG : Hid (Row wr gr 8 (fun _ => .int .i64 0)) := HRR.out.kept hkk (fun h => HGR.out.2.2 h)
    clear hpl hr hkk
    by_cases hlt : 0 < k
    · obtain ⟨j, rfl⟩ : ∃ j, k = j + 1 := ⟨k - 1, by omega⟩
      have hj : j < q.length := by omega
      have hbl : g ≠ (aq.map (·.block)).getD 0 ∨ True := .inr trivial
      obtain ⟨b, o, rfl, hc⟩ := quAt HN.out hj
      have hbw : b < w.heap.size := lt_of_cell (hc j hj).c0
      have hbg : b ≠ g := by have := HG.out; omega
      obtain ⟨_, p1', p2'⟩ := hc j hj
      have p1 : wr.cell? ⟨b, o + j * 3 + 1, none⟩ = some (.int .i64 (qth q j).vr) := by rw [HBW.out.cell (p := ⟨b, o + j * 3 + 1, none⟩) hbw]; exact p1'
      have p2 : wr.cell? ⟨b, o + j * 3 + 2, none⟩ = some (.int .i64 (qth q j).bits) := by rw [HBW.out.cell (p := ⟨b, o + j * 3 + 2, none⟩) hbw]; exact p2'
      clear hc p1' p2' hbl
      have HED : Hid _ := env_drop hj p
      have HBD : Hid _ := bit_drop hj
      obtain ⟨t1, t2, t3, t4⟩ := HTY.out j hj
      generalize (qth q j).vr = v at p1 t1 t2 HED
      generalize (qth q j).bits = bt at p2 t3 t4 HED HBD
      obtain ⟨vv, rfl⟩ := Int.eq_ofNat_of_zero_le t1
      obtain ⟨bb, rfl⟩ := Int.eq_ofNat_of_zero_le (show 0 ≤ bt by omega)
      simp only [Int.toNat_natCast] at HED HBD
      have hv8 : (vv : Int) < 8 := by omega
      have hb8 : bb ≤ 8 := by omega
      have hjz : ((j + 1 : Nat) : Int) - 1 = (j : Int) := by omega
      rw [hjz]
      have hge : (j : Int) ≥ 0 := by omega
      have hlz : (j : Int) < (q.length : Int) := by omega
      have hwu : IntKind.u8.wrap (pl : Int) = (pl : Int) % 256 := by rw [IntKind.wrap_u8]
      have hm0 : 0 ≤ (pl : Int) % 256 := by omega
      have hm1 : (pl : Int) % 256 ≤ 255 := by omega
      have hcm : (pl : Int) % 256 % Pl1.p2 ((bb : Nat) : Int).toNat = ((pl % 2 ^ bb : Nat) : Int) := by
        rw [Int.toNat_natCast]
        exact (by simpa [Pl1.p2] using cut_mod pl bb hb8)
      have HCT : Hid (∀ W : World, Calls Tryz.prog 40 #[.int .u8 ((pl : Int) % 256), .int .i64 ((bb : Nat) : Int)] W fun e w' => e = .returned (.int .u8 ((pl % 2 ^ bb : Nat) : Int)) ∧ w' = W) := fun W => (Wd1.cut _ _ W hm0 hm1 t3 t4).mono (fun e w' h => ⟨by rw [h.1, hcm], h.2⟩)
      have hlt2 : pl % 2 ^ bb < 256 := by
        have h1 := Nat.mod_lt pl (Nat.two_pow_pos bb)
        have h2 : 2 ^ bb ≤ 2 ^ 8 := Nat.pow_le_pow_right (by omega) hb8
        omega
      have hsh := shr64 pl bb hb8
      have HSH : Hid ((pl : Int) / 2 ^ bb = ((pl / 2 ^ bb : Nat) : Int)) := by show _ = _; push_cast; rfl
      have HPN : Hid (pl / 2 ^ bb = p / 2 ^ bitL (q.drop j)) := by
        show _ = _
        rw [HPL.out, HBD.out, Nat.div_div_eq_div_mul, ← Nat.pow_add, Nat.add_comm]
      have HEN : Hid (envL (q.drop j) p = (envL (q.drop (j + 1)) p).set vv ((pl % 2 ^ bb : Nat) : Int)) := by
        show _ = _
        rw [HED.out, HPL.out]
      clear HED HBD hcm hm0 hm1
      generalize hx : pl % 2 ^ bb = x at HCT HEN hlt2
      clear hx
      have hwx : IntKind.i64.wrap (x : Int) = (x : Int) := by rw [IntKind.wrap_i64] <;> omega
      obtain ⟨c1, c2⟩ := HR.out vv (by omega)
      dsimp only at c1
      generalize wd (envL (q.drop (j + 1)) p) (vv : Int) = old at c1
      have s1 : ((wr.setCell ⟨g, vv, none⟩ (.int .i64 (x : Int))).drew).cell? ⟨b, o + j * 3 + 1, none⟩ = some (.int .i64 (vv : Int)) := (set_other (fun e => hbg (congrArg Addr.block e).symm)).trans p1
      have s2 : ((wr.setCell ⟨g, vv, none⟩ (.int .i64 (x : Int))).drew).cell? ⟨b, o + j * 3 + 2, none⟩ = some (.int .i64 (bb : Int)) := (set_other (fun e => hbg (congrArg Addr.block e).symm)).trans p2
      have HR9 : Hid (Row (wr.setCell ⟨g, vv, none⟩ (.int .i64 (x : Int))).drew g 8 (fun i => .int .i64 (wd (envL (q.drop j) p) (i : Int)))) := Row.drew (row_list (row_set_int HR.out (env_len _ _) (by omega) _) HEN.out.symm)
      have HK9 : Hid (Kept (fun b => b = g) wa (wr.setCell ⟨g, vv, none⟩ (.int .i64 (x : Int))).drew) := (HK.out.setCell (p := ⟨g, vv, none⟩) rfl _).drew
      go_wp2_with fail
      go_region_held (fun w' => w'.cell? ⟨b, o + j * 3 + 1, none⟩ = some (.int .i64 (vv : Int)) ∧ w'.cell? ⟨b, o + j * 3 + 2, none⟩ = some (.int .i64 (bb : Int))) ((first | exact ⟨p1, p2⟩ | exact ⟨s1, s2⟩)) ((go_at_call 40; refine (HCT.out _).mono ?_; rintro e wn ⟨rfl, rfl⟩))
      go_wp2
      go_roundw
      case rel => exact ⟨j, pl / 2 ^ bb, by omega, by go_num, by rw [HSH.out], HPN.out, HR9.out, HK9.out⟩
      case measure => simp [intOf] <;> omega
    · obtain rfl : k = 0 := by omega
      have hge : ¬ ((0 : Nat) : Int) - 1 ≥ 0 := by omega
      obtain ⟨r, hr⟩ : ∃ r : Nat → Int, r = fun (v : Nat) => wd (envL q p) (v : Int) := ⟨_, rfl⟩
      have HRr : Hid (Row wr g 8 (fun i => .int .i64 (r i))) := by rw [hr]; exact HR.out
      have HAG : Hid (aggI r = aggE (envL q p)) := by rw [hr]; rfl
      clear hr
      obtain ⟨e0, _⟩ := HRr.out 0 (by omega)
      obtain ⟨e1, _⟩ := HRr.out 1 (by omega)
      obtain ⟨e2, _⟩ := HRr.out 2 (by omega)
      obtain ⟨e3, _⟩ := HRr.out 3 (by omega)
      obtain ⟨e4, _⟩ := HRr.out 4 (by omega)
      obtain ⟨e5, _⟩ := HRr.out 5 (by omega)
      obtain ⟨e6, _⟩ := HRr.out 6 (by omega)
      obtain ⟨e7, _⟩ := HRr.out 7 (by omega)
      obtain ⟨k0, f0⟩ := HRG.out 0 (by omega)
      obtain ⟨k1, f1⟩ := HRG.out 1 (by omega)
      obtain ⟨k2, f2⟩ := HRG.out 2 (by omega)
      obtain ⟨k3, f3⟩ := HRG.out 3 (by omega)
      obtain ⟨k4, f4⟩ := HRG.out 4 (by omega)
      obtain ⟨k5, f5⟩ := HRG.out 5 (by omega)
      obtain ⟨k6, f6⟩ := HRG.out 6 (by omega)
      obtain ⟨k7, f7⟩ := HRG.out 7 (by omega)
      go_wp2
      try simp only [Exit.inBlock, Exit.then]
      refine bodyPost_ret (results_vars (r := r) rfl (row_set8 HRG.out r)) rfl ?_
      refine ⟨by rw [HAG.out], ?_⟩
      exact past8 HBW.out (by have := HG.out; omega) _ _ _ _ _ _ _ _

end Go.Proofs.YtgfekhgeopflcaaGreat.To1
