/- The program's firstFree: of each variable the first node of it that stands free in the root. -/
import Derived.Shelf.Abstract
import Derived.Deep.RegionWith
import Derived.Deep.MidRow
import Derived.Test.YtjfikpfdhjbheaaGreatAw4
import Derived.Test.YtjfikpfdhjbheaaGreatPkCL17
import Derived.Test.YtjfikpfdhjbheaaGreatPkCL11
import Derived.Test.YtjfikpfdhjbheaaGreatPkCL29
import Derived.Test.YtjfikpfdhjbheaaGreatPkCL3
namespace Go.Proofs.YtjfikpfdhjbheaaGreat.Pb8
open Go.RowKit
open Nd0 Nd3 Pl1 Tm0 Tm1 Tm5 Tm8 Rw0 Pg1 Aq0 Aq2 Ar0 Aw4
open Aw1 (nv)
set_option linter.unusedVariables false

def ffA (i : Nat) (n : Nd) (ps : List Ar) : Ar := fun v => ffAt v i n (ps.map fun r => r v)
theorem rows_ar (l : List Nd) (v : Nat) : ∀ k i, i < k → k ≤ l.length → Down l → (wk Ar.nil ffA l k).getD i Ar.nil v = (ffTo l v k).getD i 80 := by
  intro k
  induction k with
  | zero => intro i hi; omega
  | succ k ih =>
    intro i hi hk hD
    by_cases e : i < k
    · rw [wk_old Ar.nil ffA l (k := k) e (by omega), ih i e (by omega) hD]
      exact (wk_old 80 (ffAt v) l (k := k) e (by omega)).symm
    · have e2 : i = k := by omega
      subst e2
      unfold ffTo
      rw [wk_new, wk_new]
      show ffAt v i (nth l i) _ = _
      congr 1
      rw [List.map_map]
      apply List.map_congr_left
      intro p hp
      have := hD i (by omega) p hp
      exact ih p.toNat (by omega) (by omega) hD
set_option maxRecDepth 100000 in
theorem res_one {w : World} {g : Nat} {f : Ar} {tmps : Array Value} (hp : tmps.getD 6 undef = .pointer (some ⟨g, 0, none⟩)) (h : ArAt w g 0 f) :
    (results Tryz.f49 tmps).run Tryz.prog w = .ok (av f) w := by
  have hr : w.rangeAt g 0 f.cells := fun j v hv => by
    have hj : j < 8 := by
      have := (List.getElem?_eq_some_iff.1 hv).1
      simpa [Ar.cells] using this
    rw [h.at hj, ← hv, cellA f hj]
  have hl := run_loadVar_mid (P := Tryz.prog) w g 0 43 f.cells _ hr Tryz.underlying43 rfl rfl
  have hp' : tmps[6]?.getD undef = .pointer (some ⟨g, 0, none⟩) := by simpa using hp
  simp [results, hp', asAddr, hl]
  rfl
set_option maxRecDepth 100000 in
theorem res_top {w : World} {g : Nat} {f : Ar} {tmps : Array Value} (hp : tmps.getD 2 undef = .pointer (some ⟨g, 0, none⟩)) (h : ArAt w g 0 f) :
    (results Tryz.f22 tmps).run Tryz.prog w = .ok (av f) w := by
  have hr : w.rangeAt g 0 f.cells := fun j v hv => by
    have hj : j < 8 := by
      have := (List.getElem?_eq_some_iff.1 hv).1
      simpa [Ar.cells] using this
    rw [h.at hj, ← hv, cellA f hj]
  have hl := run_loadVar_mid (P := Tryz.prog) w g 0 43 f.cells _ hr Tryz.underlying43 rfl rfl
  have hp' : tmps[2]?.getD undef = .pointer (some ⟨g, 0, none⟩) := by simpa using hp
  simp [results, hp', asAddr, hl]
  rfl
theorem row_ar {w : World} {g : Nat} {f : Nat → Int} (h : Row w g 8 (fun v => .int .i64 (f v))) : ArAt w g 0 f := ArAt.of fun v hv => by rw [Nat.zero_add]; exact (h v hv).1

set_option maxRecDepth 100000 in
set_option maxHeartbeats 4000000 in
theorem tellFF (i : Nat) (n : Nd) (a : Option Addr) (ps : List Ar) (c : Nat) (w : World) (hi : i ≤ 80) (hP : Ars w a ps) (h3 : ps.length ≤ 3) (hk : n.op = 1 ∨ quant n.op = true → 0 ≤ n.k ∧ n.k ≤ 7) :
    Calls Tryz.prog 49 #[.int .i64 (i : Int), nv n, .slice a ps.length c] w fun e w' => e = .returned (av (ffA i n ps)) ∧ Below w.heap.size w w' := by
  obtain ⟨W1, hW1⟩ : ∃ W1 : World, W1 = w.alloc (.cells #[.int .i64 n.op, .int .i64 n.w, .int .i64 n.k, .int .i64 n.a, .int .i64 n.b, .int .i64 n.c] 42) := ⟨_, rfl⟩
  obtain ⟨W2, hW2⟩ : ∃ W2 : World, W2 = W1.alloc (.cells #[.int .i64 0, .int .i64 0, .int .i64 0, .int .i64 0, .int .i64 0, .int .i64 0, .int .i64 0, .int .i64 0] 43) := ⟨_, rfl⟩
  obtain ⟨W, hW⟩ : ∃ W : World, W = W2.alloc (.cells #[.int .i64 0, .int .i64 0, .int .i64 0, .int .i64 0, .int .i64 0, .int .i64 0, .int .i64 0, .int .i64 0] 43) := ⟨_, rfl⟩
  have s1 : W1.heap.size = w.heap.size + 1 := by rw [hW1]; simp
  have s2 : W2.heap.size = w.heap.size + 1 + 1 := by rw [hW2]; simp [s1]
  have s3 : W.heap.size = w.heap.size + 1 + 1 + 1 := by rw [hW]; simp [s2]
  have b1 : Below w.heap.size w W1 := by rw [hW1]; exact (Below.refl _ _).alloc (Nat.le_refl _) _
  have b2 : Below W1.heap.size W1 W2 := by rw [hW2]; exact (Below.refl _ _).alloc (Nat.le_refl _) _
  have b3 : Below W2.heap.size W2 W := by rw [hW]; exact (Below.refl _ _).alloc (Nat.le_refl _) _
  have HBW : Hid (Below w.heap.size w W) := b1.trans ((b2.mono (by omega)).trans (b3.mono (by omega)))
  have n1 : NodeAt W1 w.heap.size 0 n := by rw [hW1]; exact ⟨by simp, by simp, by simp, by simp, by simp, by simp⟩
  have HNW : Hid (NodeAt W w.heap.size 0 n) := (n1.below b2 (by omega)).below b3 (by omega)
  have zz : ∀ i, i < 8 → (#[.int .i64 0, .int .i64 0, .int .i64 0, .int .i64 0, .int .i64 0, .int .i64 0, .int .i64 0, .int .i64 0] : Array Value)[i]? = some (.int .i64 0) := fun i hi => by
    rcases (show i = 0 ∨ i = 1 ∨ i = 2 ∨ i = 3 ∨ i = 4 ∨ i = 5 ∨ i = 6 ∨ i = 7 by omega) with h | h | h | h | h | h | h | h <;> subst h <;> rfl
  have HRA : Hid (Row W (w.heap.size + 1) 8 (fun _ => .int .i64 0)) := by
    have h : Row W2 (w.heap.size + 1) 8 (fun _ => .int .i64 0) := by rw [← s1, hW2]; exact Row.new _ _ _ _ _ zz
    exact h.below b3
  have HR0 : Hid (Row W (w.heap.size + 1 + 1) 8 (fun _ => .int .i64 0)) := by rw [← s2, hW]; exact Row.new _ _ _ _ _ zz
  have HP0 : Hid (Ars w a ps) := hP
  have HS3 : Hid (W.heap.size = w.heap.size + 1 + 1 + 1) := s3
  have HK : Hid (n.op = 1 ∨ quant n.op = true → 0 ≤ n.k ∧ n.k ≤ 7) := hk
  obtain ⟨G, hG⟩ : ∃ G : Nat, G = w.heap.size + 1 + 1 := ⟨_, rfl⟩
  have HG : Hid (G = w.heap.size + 1 + 1) := hG
  rw [← hG] at HR0
  clear hP hk zz n1 b1 b2 b3 s1 s2 s3
  go_enter Tryz.func49, Tryz.ntmps49
  go_upto_region 2 with fail
  rw [← hW1, ← hW2, ← hW, ← hG]
  clear hW1 hW2 hW hG
  go_wp2_with fail
  go_loopw [11] (fun q wr => ∃ v : Nat, v ≤ 8 ∧ q = .int .i64 v ∧ Row wr G 8 (fun j => .int .i64 (if j < v then least (ps.map fun r => r j) else 0)) ∧ Kept (fun b => b = G) W wr) (fun q _ => 8 - (intOf q).toNat)
  case atStart => exact ⟨0, Nat.zero_le _, rfl, HR0.out.congr (fun j _ => by simp), Kept.refl _ _⟩
  case round =>
    clear HR0
    obtain ⟨v, hv, rfl, hr, hkp⟩ := hrel
    obtain ⟨wb, rfl⟩ : ∃ wb : World, wb = wr := ⟨_, rfl⟩
    have HR : Hid (Row wb G 8 (fun j => .int .i64 (if j < v then least (ps.map fun r => r j) else 0))) := hr
    have HKW : Hid (Kept (fun b => b = G) W wb) := hkp
    clear hr hkp
    by_cases hv8 : v < 8
    · have hvz : (v : Int) < 8 := by omega
      obtain ⟨r0, r1⟩ := HR.out v hv8
      have HR1 : Hid (Row (wb.setCell ⟨G, v, none⟩ (.int .i64 80)) G 8 (fun j => .int .i64 (if j < v then least (ps.map fun r => r j) else if j = v then least ((ps.take 0).map fun r => r v) else 0))) := by
        refine (HR.out.set hv8 _).congr (fun j hj => ?_)
        by_cases e : j = v
        · subst e
          rw [if_pos rfl, if_neg (by omega), if_pos rfl]; rfl
        · rw [if_neg e, if_neg e]
      have HK1 : Hid (Kept (fun b => b = G) W (wb.setCell ⟨G, v, none⟩ (.int .i64 80))) := HKW.out.setCell (p := ⟨G, v, none⟩) rfl _
      clear HR HKW
      go_wp2_with fail
      clear r0 r1
      go_loopw [18] (fun q wr => ∃ m : Nat, m ≤ ps.length ∧ q = .int .i64 m ∧ Row wr G 8 (fun j => .int .i64 (if j < v then least (ps.map fun r => r j) else if j = v then least ((ps.take m).map fun r => r v) else 0)) ∧ Kept (fun b => b = G) W wr) (fun q _ => ps.length - (intOf q).toNat)
      case atStart => exact ⟨0, Nat.zero_le _, rfl, HR1.out, HK1.out⟩
      case round =>
        clear HR1 HK1
        obtain ⟨m, hm, rfl, hr, hkp⟩ := hrel
        obtain ⟨wc, rfl⟩ : ∃ wc : World, wc = wr := ⟨_, rfl⟩
        have HKC : Hid (Kept (fun b => b = G) W wc) := hkp
        have HRC : Hid (Row wc G 8 (fun j => .int .i64 (if j < v then least (ps.map fun r => r j) else if j = v then least ((ps.take m).map fun r => r v) else 0))) := hr
        clear hr hkp
        by_cases hmp : m < ps.length
        · have hmz : (m : Int) < (ps.length : Int) := by omega
          rcases HP0.out.2 with h0 | ⟨xb, xo, rfl, hx⟩
          · omega
          have hxl : xb < w.heap.size := (hx m hmp).lt
          have hxG : xb ≠ G := by have := HG.out; omega
          have hz9 : ArAt wc xb (xo + m * 8) ps[m] := ((hx m hmp).below HBW.out hxl).kept HKC.out hxG
          have HTK : Hid (least ((ps.take (m + 1)).map fun r => r v) = mn (least ((ps.take m).map fun r => r v)) (ps[m] v)) := by
            show _ = _
            rw [List.take_succ_eq_append_getElem hmp, List.map_append]
            exact least_snoc _ _
          have hbd : least ((ps.take m).map fun r => r v) ≤ 80 := (least_le _).1
          obtain ⟨r0, r1⟩ := HRC.out v hv8
          dsimp only at r0
          rw [if_neg (by omega), if_pos rfl] at r0
          generalize ps[m] = z at hz9 HTK
          obtain ⟨X, hX⟩ : ∃ X : Int, X = least ((ps.take m).map fun r => r v) := ⟨_, rfl⟩
          rw [← hX] at r0 HTK hbd
          obtain ⟨W', hW'⟩ : ∃ W' : World, W' = wc.alloc (.cells #[.int .i64 (z 0), .int .i64 (z 1), .int .i64 (z 2), .int .i64 (z 3), .int .i64 (z 4), .int .i64 (z 5), .int .i64 (z 6), .int .i64 (z 7)] 43) := ⟨_, rfl⟩
          have HKX : Hid (Kept (fun b => b = G) W W') := by rw [hW']; exact HKC.out.alloc _
          have hba : Below wc.heap.size wc W' := by rw [hW']; exact (Below.refl _ _).alloc (Nat.le_refl _) _
          have HRX : Hid (Row W' G 8 (fun j => .int .i64 (if j < v then least (ps.map fun r => r j) else if j = v then X else 0))) := by
            rw [hX]; exact HRC.out.below hba
          have d0 : W'.cell? ⟨wc.heap.size, v, none⟩ = some (.int .i64 (z v)) := by
            have h : ArAt W' wc.heap.size 0 z := by rw [hW']; exact ⟨by simp, by simp, by simp, by simp, by simp, by simp, by simp, by simp⟩
            have := h.at hv8
            rwa [Nat.zero_add] at this
          have q0 : W'.cell? ⟨G, v, none⟩ = some (.int .i64 X) := (hba.cell (lt_of_cell r0)).trans r0
          have q1 : W'.frozen? ⟨G, v, none⟩ = false := (hba.frozen (lt_of_cell r0)).trans r1
          have HRN : Hid (∀ y, y = mn X (z v) → Row (W'.setCell ⟨G, v, none⟩ (.int .i64 y)) G 8 (fun j => .int .i64 (if j < v then least (ps.map fun r => r j) else if j = v then least ((ps.take (m + 1)).map fun r => r v) else 0))) := fun y hy => by
            refine (HRX.out.set hv8 _).congr (fun j hj => ?_)
            by_cases e : j = v
            · subst e
              rw [if_pos rfl, if_neg (by omega), if_pos rfl, HTK.out, hy]
            · rw [if_neg e, if_neg e, if_neg e]
          have HKN : Hid (∀ y, Kept (fun b => b = G) W (W'.setCell ⟨G, v, none⟩ (.int .i64 y))) := fun y => HKX.out.setCell (p := ⟨G, v, none⟩) rfl _
          obtain ⟨c0, c1, c2, c3, c4, c5, c6, c7⟩ := hz9
          clear hx r0 r1 hX hba HTK HRC HKC HRX
          generalize hbn : wc.heap.size = bn at d0
          go_upto_region 9 with fail
          rw [← hW']
          clear hW' hbn c0 c1 c2 c3 c4 c5 c6 c7
          obtain ⟨y, hy⟩ : ∃ y : Int, y = z v := ⟨_, rfl⟩
          rw [← hy] at d0 HRN
          clear hy
          by_cases hlt : y < X
          · have HRM : Hid (Row (W'.setCell ⟨G, v, none⟩ (.int .i64 y)) G 8 (fun j => .int .i64 (if j < v then least (ps.map fun r => r j) else if j = v then least ((ps.take (m + 1)).map fun r => r v) else 0))) := HRN.out y (by unfold mn; rw [if_pos hlt])
            have hmin : min X y = y := by omega
            go_wp2_with fail
            go_region
            all_goals
              go_wp2
              go_roundw
              case rel => exact ⟨m + 1, by omega, by go_num, HRM.out.drew, (HKN.out y).drew⟩
              case measure => simp [intOf]; omega
          · have HRM : Hid (Row (W'.setCell ⟨G, v, none⟩ (.int .i64 X)) G 8 (fun j => .int .i64 (if j < v then least (ps.map fun r => r j) else if j = v then least ((ps.take (m + 1)).map fun r => r v) else 0))) := HRN.out X (by unfold mn; rw [if_neg hlt])
            have hmin : min X y = X := by omega
            go_wp2_with fail
            go_region
            all_goals
              go_wp2
              go_roundw
              case rel => exact ⟨m + 1, by omega, by go_num, HRM.out.drew, (HKN.out X).drew⟩
              case measure => simp [intOf]; omega
        · have hmz : ¬ (m : Int) < (ps.length : Int) := by omega
          have hme : m = ps.length := by omega
          have HRM : Hid (Row wc G 8 (fun j => .int .i64 (if j < v + 1 then least (ps.map fun r => r j) else 0))) := HRC.out.congr (fun j hj => by
            by_cases e : j < v
            · rw [if_pos e, if_pos (by omega)]
            · rw [if_neg e]
              by_cases e2 : j = v
              · rw [if_pos e2, if_pos (by omega), hme, List.take_length, e2]
              · rw [if_neg e2, if_neg (by omega)])
          clear HRC
          go_wp2_with fail
          go_roundw
          case rel => exact ⟨v + 1, by omega, by go_num, HRM.out, HKC.out⟩
          case measure => simp [intOf]; omega
    · have hvz : ¬ (v : Int) < 8 := by omega
      have hve : v = 8 := by omega
      subst hve
      have HRF : Hid (Row wb G 8 (fun j => .int .i64 (least (ps.map fun r => r j)))) := HR.out.congr (fun j hj => by rw [if_pos hj])
      have HNB : Hid (NodeAt wb w.heap.size 0 n) := by
        have h := HNW.out
        have e : w.heap.size ≠ G := by have := HG.out; omega
        obtain ⟨p0, p1, p2, p3, p4, p5⟩ := h
        have hl : w.heap.size < W.heap.size := by have := HS3.out; omega
        exact ⟨by rw [HKW.out.cell (p := ⟨w.heap.size, 0, none⟩) hl e]; exact p0, by rw [HKW.out.cell (p := ⟨w.heap.size, 0 + 1, none⟩) hl e]; exact p1, by rw [HKW.out.cell (p := ⟨w.heap.size, 0 + 2, none⟩) hl e]; exact p2, by rw [HKW.out.cell (p := ⟨w.heap.size, 0 + 3, none⟩) hl e]; exact p3, by rw [HKW.out.cell (p := ⟨w.heap.size, 0 + 4, none⟩) hl e]; exact p4, by rw [HKW.out.cell (p := ⟨w.heap.size, 0 + 5, none⟩) hl e]; exact p5⟩
      have HRB : Hid (Row wb (w.heap.size + 1) 8 (fun _ => .int .i64 0)) := HRA.out.kept HKW.out (by have := HG.out; omega)
      obtain ⟨p0, -, p2, -, -, -⟩ := HNB.out
      simp only [Nat.zero_add] at p2
      have fin : ∀ (W9 : World) (f : Ar), Kept (fun b => b = G) W W9 → Row W9 G 8 (fun j => .int .i64 (f j)) → Hid (Row W9 G 8 (fun j => .int .i64 (f j)) ∧ Row W9 (w.heap.size + 1) 8 (fun _ => .int .i64 0) ∧ Below w.heap.size w (setAr W9 (w.heap.size + 1) 0 f) ∧ ArAt (setAr W9 (w.heap.size + 1) 0 f) (w.heap.size + 1) 0 f) := fun W9 f h1 h2 => by
        have h3 : Row W9 (w.heap.size + 1) 8 (fun _ => .int .i64 0) := HRA.out.kept h1 (by have := HG.out; omega)
        have k9 := setAr_keptS (S := fun b => b = w.heap.size + 1) (b := w.heap.size + 1) (p := 0) (n := f) rfl (Kept.refl _ W9)
        have hb9 : Below w.heap.size w W9 := HBW.out.trans (h1.below (fun b (hb : b = G) => by have := HG.out; omega) HBW.out.size)
        exact ⟨h2, h3, hb9.trans (k9.below (fun b (hb : b = _) => by omega) hb9.size), setAr_same (v := fun _ => 0) (row_ar h3)⟩
      have HFIN : Hid _ := fin
      clear fin HR
      cases hop : (n.op == 1)
      · cases hq : quant n.op
        · have HRE : Hid (Row wb G 8 (fun j => .int .i64 (ffA i n ps j))) := HRF.out.congr (fun j hj => by
            show Value.int .i64 _ = Value.int .i64 (ffAt j i n _)
            unfold ffAt Aq2.isVar isQ
            rw [hop, hq]; rfl)
          have HQC : Hid (∀ W : World, Calls Tryz.prog 50 #[.int .i64 n.op] W fun e w' => e = .returned (.bool false) ∧ w' = W) := fun W => by rw [← hq]; exact iQuant n.op W
          go_wp2_with fail
          refine (HQC.out _).mono ?_
          rintro e w' ⟨rfl, hw'⟩
          have hw2 := hw'.symm
          clear hw'
          subst hw2
          clear hq HQC
          have HE : Hid _ := HFIN.out wb (ffA i n ps) HKW.out HRE.out
          obtain ⟨e1, e2, e3, e4⟩ := HE.out
          obtain ⟨u0a, -⟩ := e1 0 (by omega)
          obtain ⟨v0a, v0b⟩ := e2 0 (by omega)
          obtain ⟨u1a, -⟩ := e1 1 (by omega)
          obtain ⟨v1a, v1b⟩ := e2 1 (by omega)
          obtain ⟨u2a, -⟩ := e1 2 (by omega)
          obtain ⟨v2a, v2b⟩ := e2 2 (by omega)
          obtain ⟨u3a, -⟩ := e1 3 (by omega)
          obtain ⟨v3a, v3b⟩ := e2 3 (by omega)
          obtain ⟨u4a, -⟩ := e1 4 (by omega)
          obtain ⟨v4a, v4b⟩ := e2 4 (by omega)
          obtain ⟨u5a, -⟩ := e1 5 (by omega)
          obtain ⟨v5a, v5b⟩ := e2 5 (by omega)
          obtain ⟨u6a, -⟩ := e1 6 (by omega)
          obtain ⟨v6a, v6b⟩ := e2 6 (by omega)
          obtain ⟨u7a, -⟩ := e1 7 (by omega)
          obtain ⟨v7a, v7b⟩ := e2 7 (by omega)
          have HF9 : Hid _ := e3
          have HA9 : Hid _ := e4
          generalize hf9 : ffA i n ps = f at *
          have HFE : Hid (ffA i n ps = f) := hf9
          clear hf9
          clear HE e1 e2 e3 e4 HFIN HRF HRB HNB HKW HK HRA HNW HP0 HBW
          go_wp2_with fail
          refine bodyPost_ret (res_one (g := w.heap.size + 1) (f := f) rfl HA9.out) rfl ?_
          exact ⟨by rw [HFE.out], HF9.out⟩
        · have hkk := HK.out (.inr hq)
          obtain ⟨kk, hkn⟩ : ∃ kk : Nat, n.k = (kk : Int) := ⟨n.k.toNat, by omega⟩
          have hk8 : kk < 8 := by omega
          have HRE : Hid (Row (wb.setCell ⟨G, kk, none⟩ (.int .i64 80)) G 8 (fun j => .int .i64 (ffA i n ps j))) := (HRF.out.set hk8 _).congr (fun j hj => by
            show _ = Value.int .i64 (ffAt j i n _)
            unfold ffAt Aq2.isVar isQ
            rw [hop, hq, hkn]
            by_cases e : j = kk
            · subst e; simp
            · rw [if_neg e]
              have : ((kk : Int) == (j : Int)) = false := by simp; omega
              rw [this]; rfl)
          have HKE : Hid (Kept (fun b => b = G) W (wb.setCell ⟨G, kk, none⟩ (.int .i64 80))) := HKW.out.setCell (p := ⟨G, kk, none⟩) rfl _
          have HQC : Hid (∀ W : World, Calls Tryz.prog 50 #[.int .i64 n.op] W fun e w' => e = .returned (.bool true) ∧ w' = W) := fun W => by rw [← hq]; exact iQuant n.op W
          obtain ⟨g0, g1⟩ := HRF.out kk hk8
          have hkz : (kk : Int) < 8 := by omega
          rw [hkn] at p2
          clear hq hkn hkk
          go_wp2_with fail
          refine (HQC.out _).mono ?_
          rintro e w' ⟨rfl, hw'⟩
          have hw2 := hw'.symm
          clear hw'
          subst hw2
          go_upto_region 16 with fail
          generalize wb.setCell ⟨G, kk, none⟩ (.int .i64 80) = W9 at HRE HKE ⊢
          clear HQC g0 g1 p0 p2
          have HE : Hid _ := HFIN.out W9 (ffA i n ps) HKE.out HRE.out
          obtain ⟨e1, e2, e3, e4⟩ := HE.out
          obtain ⟨u0a, -⟩ := e1 0 (by omega)
          obtain ⟨v0a, v0b⟩ := e2 0 (by omega)
          obtain ⟨u1a, -⟩ := e1 1 (by omega)
          obtain ⟨v1a, v1b⟩ := e2 1 (by omega)
          obtain ⟨u2a, -⟩ := e1 2 (by omega)
          obtain ⟨v2a, v2b⟩ := e2 2 (by omega)
          obtain ⟨u3a, -⟩ := e1 3 (by omega)
          obtain ⟨v3a, v3b⟩ := e2 3 (by omega)
          obtain ⟨u4a, -⟩ := e1 4 (by omega)
          obtain ⟨v4a, v4b⟩ := e2 4 (by omega)
          obtain ⟨u5a, -⟩ := e1 5 (by omega)
          obtain ⟨v5a, v5b⟩ := e2 5 (by omega)
          obtain ⟨u6a, -⟩ := e1 6 (by omega)
          obtain ⟨v6a, v6b⟩ := e2 6 (by omega)
          obtain ⟨u7a, -⟩ := e1 7 (by omega)
          obtain ⟨v7a, v7b⟩ := e2 7 (by omega)
          have HF9 : Hid _ := e3
          have HA9 : Hid _ := e4
          generalize hf9 : ffA i n ps = f at *
          have HFE : Hid (ffA i n ps = f) := hf9
          clear hf9
          clear HE e1 e2 e3 e4 HFIN HRF HRB HNB HKW HK HRA HNW HP0 HBW
          go_wp2_with fail
          refine bodyPost_ret (res_one (g := w.heap.size + 1) (f := f) rfl HA9.out) rfl ?_
          exact ⟨by rw [HFE.out], HF9.out⟩
      · have hop1 : n.op = 1 := by simpa using hop
        have hkk := HK.out (.inl hop1)
        obtain ⟨kk, hkn⟩ : ∃ kk : Nat, n.k = (kk : Int) := ⟨n.k.toNat, by omega⟩
        have hk8 : kk < 8 := by omega
        have HRE : Hid (Row (wb.setCell ⟨G, kk, none⟩ (.int .i64 (i : Int))) G 8 (fun j => .int .i64 (ffA i n ps j))) := (HRF.out.set hk8 _).congr (fun j hj => by
          show _ = Value.int .i64 (ffAt j i n _)
          have hq : quant n.op = false := by rw [hop1]; rfl
          unfold ffAt Aq2.isVar isQ
          rw [hop, hq, hkn]
          by_cases e : j = kk
          · subst e; simp
          · rw [if_neg e]
            have : ((kk : Int) == (j : Int)) = false := by simp; omega
            rw [this]; rfl)
        have HKE : Hid (Kept (fun b => b = G) W (wb.setCell ⟨G, kk, none⟩ (.int .i64 (i : Int)))) := HKW.out.setCell (p := ⟨G, kk, none⟩) rfl _
        obtain ⟨g0, g1⟩ := HRF.out kk hk8
        have hkz : (kk : Int) < 8 := by omega
        rw [hkn] at p2
        clear hop1 hkn hkk
        go_upto_region 16 with fail
        generalize wb.setCell ⟨G, kk, none⟩ (.int .i64 (i : Int)) = W9 at HRE HKE ⊢
        clear g0 g1 p0 p2
        have HE : Hid _ := HFIN.out W9 (ffA i n ps) HKE.out HRE.out
        obtain ⟨e1, e2, e3, e4⟩ := HE.out
        obtain ⟨u0a, -⟩ := e1 0 (by omega)
        obtain ⟨v0a, v0b⟩ := e2 0 (by omega)
        obtain ⟨u1a, -⟩ := e1 1 (by omega)
        obtain ⟨v1a, v1b⟩ := e2 1 (by omega)
        obtain ⟨u2a, -⟩ := e1 2 (by omega)
        obtain ⟨v2a, v2b⟩ := e2 2 (by omega)
        obtain ⟨u3a, -⟩ := e1 3 (by omega)
        obtain ⟨v3a, v3b⟩ := e2 3 (by omega)
        obtain ⟨u4a, -⟩ := e1 4 (by omega)
        obtain ⟨v4a, v4b⟩ := e2 4 (by omega)
        obtain ⟨u5a, -⟩ := e1 5 (by omega)
        obtain ⟨v5a, v5b⟩ := e2 5 (by omega)
        obtain ⟨u6a, -⟩ := e1 6 (by omega)
        obtain ⟨v6a, v6b⟩ := e2 6 (by omega)
        obtain ⟨u7a, -⟩ := e1 7 (by omega)
        obtain ⟨v7a, v7b⟩ := e2 7 (by omega)
        have HF9 : Hid _ := e3
        have HA9 : Hid _ := e4
        generalize hf9 : ffA i n ps = f at *
        have HFE : Hid (ffA i n ps = f) := hf9
        clear hf9
        clear HE e1 e2 e3 e4 HFIN HRF HRB HNB HKW HK HRA HNW HP0 HBW
        go_wp2_with fail
        refine bodyPost_ret (res_one (g := w.heap.size + 1) (f := f) rfl HA9.out) rfl ?_
        exact ⟨by rw [HFE.out], HF9.out⟩

theorem tells (l : List Nd) (hT : termOk l = true) (w0 : World) : TellA w0 49 #[] l ffA := by
  intro W i a c hi hB hN
  have hl := term_len hT
  have hp := parts_le (nth l i)
  refine tellFF i (nth l i) a (said Ar.nil ffA l i) c W (by omega) hN (by rw [said_len]; exact hp) (fun h => ?_)
  exact Tm6.shape_var (term_node hT hi) h
set_option maxRecDepth 100000 in
set_option maxHeartbeats 2000000 in
theorem iFirst (w : World) (a : Option Addr) (l : List Nd) (c : Nat) (hN : Nodes w a l) (hT : termOk l = true) :
    Calls Tryz.prog 22 #[.slice a l.length c] w fun e w' => (∃ f : Ar, e = .returned (av f) ∧ ∀ v, v < 8 → f v = ffTop l v) ∧ Below w.heap.size w w' := by
  obtain ⟨hl1, hl2⟩ := term_len hT
  have hD := down_of hT
  obtain ⟨W1, hW1⟩ : ∃ W1 : World, W1 = w.alloc (.cells #[.int .i64 0, .int .i64 0, .int .i64 0, .int .i64 0, .int .i64 0, .int .i64 0, .int .i64 0, .int .i64 0] 43) := ⟨_, rfl⟩
  have HB1 : Hid (Below w.heap.size w W1) := by rw [hW1]; exact (Below.refl _ _).alloc (Nat.le_refl _) _
  have HA1 : Hid (Row W1 w.heap.size 8 (fun _ => .int .i64 0)) := by
    rw [hW1]
    exact Row.new _ _ _ _ _ (fun i hi => by
      rcases (show i = 0 ∨ i = 1 ∨ i = 2 ∨ i = 3 ∨ i = 4 ∨ i = 5 ∨ i = 6 ∨ i = 7 by omega) with h | h | h | h | h | h | h | h <;> subst h <;> rfl)
  have hs1 : w.heap.size < W1.heap.size := by rw [hW1]; simp
  have HWA : Hid (Calls Tryz.prog 48 #[.slice a l.length c, .func (.func 49) #[] #[]] W1 fun e w' => (∃ a', e = .returned (.slice a' l.length l.length) ∧ WArs w' W1.heap.size a' (wk Ar.nil ffA l l.length)) ∧ Below W1.heap.size W1 w') :=
    wArr 49 #[] ffA W1 a l c (hN.below HB1.out) hD (by omega) (enters_of Tryz.func49 (by kernel_rfl) rfl) (tells l hT W1)
  have HRW : Hid (∀ v, (wk Ar.nil ffA l l.length).getD (l.length - 1) Ar.nil v = ffTop l v) := fun v => rows_ar l v l.length (l.length - 1) (by omega) (Nat.le_refl _) hD
  clear hN hT hD
  go_enter Tryz.func22, Tryz.ntmps22
  go_upto_region 1 with fail
  rw [← hW1]
  clear hW1
  go_wp2_with fail
  refine HWA.out.mono ?_
  rintro e w2 ⟨⟨a', rfl, hw⟩, hb⟩
  have HB2 : Hid (Below w.heap.size w w2) := HB1.out.trans (hb.mono HB1.out.size)
  have HA2 : Hid (Row w2 w.heap.size 8 (fun _ => .int .i64 0)) := HA1.out.below hb
  have hlw : (wk Ar.nil ffA l l.length).length = l.length := wk_length _ _ _ _
  rcases hw.2 with h0 | ⟨b, o, rfl, hB, hc, -⟩
  · omega
  have hx := hc (l.length - 1) (by omega)
  have hge : (wk Ar.nil ffA l l.length)[l.length - 1]'(by omega) = (wk Ar.nil ffA l l.length).getD (l.length - 1) Ar.nil := by
    rw [List.getD_eq_getElem?_getD, List.getElem?_eq_getElem (by omega)]; rfl
  rw [hge] at hx
  have HRX : Hid (∀ v, (wk Ar.nil ffA l l.length).getD (l.length - 1) Ar.nil v = ffTop l v) := HRW.out
  generalize (wk Ar.nil ffA l l.length).getD (l.length - 1) Ar.nil = f at hx HRX
  obtain ⟨m, hm⟩ : ∃ m : Nat, l.length = m + 1 := ⟨l.length - 1, by omega⟩
  rw [show l.length - 1 = m by omega] at hx
  have hmz : IntKind.i64.wrap ((l.length : Int) - 1) = (m : Int) := by rw [IntKind.wrap_i64] <;> omega
  have hml : (m : Int) < (l.length : Int) := by omega
  have hsub : (l.length : Int) - 1 = (m : Int) := by omega
  obtain ⟨c0, c1, c2, c3, c4, c5, c6, c7⟩ := hx
  obtain ⟨v0a, v0b⟩ := HA2.out 0 (by omega)
  obtain ⟨v1a, v1b⟩ := HA2.out 1 (by omega)
  obtain ⟨v2a, v2b⟩ := HA2.out 2 (by omega)
  obtain ⟨v3a, v3b⟩ := HA2.out 3 (by omega)
  obtain ⟨v4a, v4b⟩ := HA2.out 4 (by omega)
  obtain ⟨v5a, v5b⟩ := HA2.out 5 (by omega)
  obtain ⟨v6a, v6b⟩ := HA2.out 6 (by omega)
  obtain ⟨v7a, v7b⟩ := HA2.out 7 (by omega)
  have HF9 : Hid (Below w.heap.size w (setAr w2 w.heap.size 0 f) ∧ ArAt (setAr w2 w.heap.size 0 f) w.heap.size 0 f) := by
    have k9 := setAr_keptS (S := fun b => b = w.heap.size) (b := w.heap.size) (p := 0) (n := f) rfl (Kept.refl _ w2)
    exact ⟨HB2.out.trans (k9.below (fun b (hb : b = _) => by omega) HB2.out.size), setAr_same (v := fun _ => 0) (row_ar HA2.out)⟩
  have HM : Hid (l.length = m + 1) := hm
  clear hw hb hlw hc hge HWA HB1 HA1 HA2 HB2 hm hs1 hB hmz
  go_wp2_with fail
  refine bodyPost_ret (res_top (g := w.heap.size) (f := f) rfl HF9.out.2) rfl ?_
  exact ⟨⟨f, rfl, fun v _ => HRX.out v⟩, HF9.out.1⟩

end Go.Proofs.YtjfikpfdhjbheaaGreat.Pb8
