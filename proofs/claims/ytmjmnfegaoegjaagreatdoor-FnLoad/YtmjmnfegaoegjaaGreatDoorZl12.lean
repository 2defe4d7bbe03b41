/- The model's LoadMachine. Written by tools/mkzl12.py. -/
import Derived.Deep.CutBlock
import Derived.Deep.RegionLaw
import Derived.Test.YtmjmnfegaoegjaaGreatDoorPkLD45
import Derived.Test.YtmjmnfegaoegjaaGreatDoorPkLD44
import Derived.Test.YtmjmnfegaoegjaaGreatDoorZk2
import Derived.Test.YtmjmnfegaoegjaaGreatDoorZm1
import Derived.Test.YtmjmnfegaoegjaaGreatDoorPkLD22
namespace Go.Proofs.YtmjmnfegaoegjaaGreatDoor.Zl12
open Go.RowKit
open Nd0 (Kept At lt_of_cell)
open Nd6 (Bools BoolsIn)
open Qc0 (Sn)
open Mw9 (OwSo)
open Tx0 Zw0 Zw1 Zl0 Zl2 Zk0
open Mm0 (Mc Mr Mok mval)
open Mx0 (Mf)
open Ap0 (Ows)
open Ap4 (Ost)
open Ss0 (bs bs_size)
open Ss1 (tl tl_bs bs_tl tl_length)
open Za1 (rrB rrL sReadRow)
open Zk1 (RkP)
open Zk2 (sReadKey)
open Zl4 (sLines sWords)
open Tc2 (tv)
open Zs0 (svB svS savT)
open Wp3 (rvL)

set_option linter.unusedVariables false

def LsP (s : List UInt8) (e : Ending) (w' : World) : Prop :=
  (∀ m, ldM s = some m → ∃ ra va ma rc vc mc, e = .returned (.tuple #[mval m ra va ma rc vc mc, .bool true]) ∧ Mr w' m ra va ma) ∧ (ldM s = none → e = .returned (.tuple #[mval mc0 none none none 0 0 0, .bool false]))
theorem LsP.no {s : List UInt8} {w' : World} (h : ldM s = none) : LsP s (.returned (.tuple #[mval mc0 none none none 0 0 0, .bool false])) w' :=
  ⟨fun m hm => (by rw [h] at hm; cases hm), fun _ => rfl⟩
theorem LsP.yes {s : List UInt8} {w' : World} {m : Mc} {ra va ma : Option Addr} {rc vc mc : Nat} (h : ldM s = some m) (hl : Mr w' m ra va ma) : LsP s (.returned (.tuple #[mval m ra va ma rc vc mc, .bool true])) w' :=
  ⟨fun m' hm => (by rw [h] at hm; cases hm; exact ⟨ra, va, ma, rc, vc, mc, rfl, hl⟩), fun e => (by rw [h] at e; cases e)⟩

theorem kept_own {g n c : Nat} {w w' : World} (h : Kept (fun i => (Value.slice (some ⟨g, 0, none⟩) n c).ownBlock = some i) w w') : Kept (fun i => i = g) w w' := h.mono fun i hi => by simpa [Value.ownBlock] using hi.symm
theorem own_or {g n c g' m : Nat} (h : (Value.slice (some ⟨g, 0, none⟩) n c).ownBlock = some g' ∨ m ≤ g') : g' = g ∨ m ≤ g' := h.imp (fun e => by simpa [Value.ownBlock] using e.symm) id
set_option maxRecDepth 100000 in
set_option maxHeartbeats 1000000 in
theorem res_m {w : World} {r : Nat} {b : Bool} {tmps : Array Value} {x0 x1 x2 x3 x4 x5 x6 x7 x8 x9 x10 : Value} (hp : tmps.getD 2 undef = .pointer (some ⟨r, 0, none⟩)) (hq : tmps.getD 3 undef = .bool b) (hF : Mf w r [x0, x1, x2, x3, x4, x5, x6, x7, x8, x9, x10]) :
    (results Tryz.f22 tmps).run Tryz.prog w = .ok (.tuple #[.agg #[x0, x1, x2, x3, x4, x5, x6, x7, x8, x9, x10], .bool b]) w := by
  obtain ⟨e0, e1, e2, e3, e4, e5, e6, e7, e8, e9, e10, _, _, _, _, _, _, _, _, _, _, _⟩ := Mf.all hF
  have hp' : tmps[2]?.getD undef = .pointer (some ⟨r, 0, none⟩) := by simpa using hp
  have hq' : tmps[3]?.getD undef = .bool b := by simpa using hq
  simp [results, Tryz.results22, go_sem, hp', hq', e0, e1, e2, e3, e4, e5, e6, e7, e8, e9, e10]
set_option maxRecDepth 100000 in
set_option maxHeartbeats 8000000 in
theorem sLoad (s : List UInt8) (w : World) (hs : s.length ≤ 1048576) :
    Calls Tryz.prog 22 #[.string (bs s)] w fun e w' => LsP s e w' ∧ Below w.heap.size w w' := by
  obtain ⟨X0, hX0⟩ : ∃ X, X = (w.alloc (.cells #[.slice none 0 0, .int .i64 0, .string ⟨#[]⟩, .int .i64 0, .slice none 0 0, .int .i64 0, .bool false, .int .i64 0, .int .i64 0, .int .i64 0, .slice none 0 0] 30)).alloc (.cells #[.slice none 0 0, .int .i64 0, .string ⟨#[]⟩, .int .i64 0, .slice none 0 0, .int .i64 0, .bool false, .int .i64 0, .int .i64 0, .int .i64 0, .slice none 0 0] 30) := ⟨_, rfl⟩
  have HE0 : Hid ((w.alloc (.cells #[.slice none 0 0, .int .i64 0, .string ⟨#[]⟩, .int .i64 0, .slice none 0 0, .int .i64 0, .bool false, .int .i64 0, .int .i64 0, .int .i64 0, .slice none 0 0] 30)).alloc (.cells #[.slice none 0 0, .int .i64 0, .string ⟨#[]⟩, .int .i64 0, .slice none 0 0, .int .i64 0, .bool false, .int .i64 0, .int .i64 0, .int .i64 0, .slice none 0 0] 30) = X0) := hX0.symm
  have HB0 : Hid (Below w.heap.size w X0) := by rw [hX0]; exact ((Below.refl _ _).alloc (Nat.le_refl _) _).alloc (by simp) _
  have HR0 : Hid (Mf X0 w.heap.size [.slice none 0 0, .int .i64 0, .string ⟨#[]⟩, .int .i64 0, .slice none 0 0, .int .i64 0, .bool false, .int .i64 0, .int .i64 0, .int .i64 0, .slice none 0 0]) := by rw [hX0]; exact (Mf.made _ _ _).alloc _
  have hsz1 : (w.alloc (.cells #[.slice none 0 0, .int .i64 0, .string ⟨#[]⟩, .int .i64 0, .slice none 0 0, .int .i64 0, .bool false, .int .i64 0, .int .i64 0, .int .i64 0, .slice none 0 0] 30)).heap.size = w.heap.size + 1 := by simp
  have HZ0 : Hid (Mf X0 (w.heap.size + 1) [.slice none 0 0, .int .i64 0, .string ⟨#[]⟩, .int .i64 0, .slice none 0 0, .int .i64 0, .bool false, .int .i64 0, .int .i64 0, .int .i64 0, .slice none 0 0]) := by
    show Mf _ _ _
    rw [hX0]
    have := Mf.made (w.alloc (.cells #[.slice none 0 0, .int .i64 0, .string ⟨#[]⟩, .int .i64 0, .slice none 0 0, .int .i64 0, .bool false, .int .i64 0, .int .i64 0, .int .i64 0, .slice none 0 0] 30)) #[.slice none 0 0, .int .i64 0, .string ⟨#[]⟩, .int .i64 0, .slice none 0 0, .int .i64 0, .bool false, .int .i64 0, .int .i64 0, .int .i64 0, .slice none 0 0] 30
    rw [hsz1] at this
    exact this
  have HX0 : Hid (X0.heap.size = w.heap.size + 2) := by rw [hX0]; show _ = _; simp
  clear hX0 hsz1
  obtain ⟨z, hz⟩ : ∃ z, z = w.heap.size + 1 := ⟨_, rfl⟩
  rw [← hz] at HZ0
  have HZW : Hid (z = w.heap.size + 1) := hz
  obtain ⟨S, hS⟩ : ∃ S, S = bs s := ⟨_, rfl⟩
  have hSz : S.size = s.length := by rw [hS, bs_size]
  have HLN := sLines S X0 (by omega)
  rw [show tl S = s by rw [hS, tl_bs]] at HLN
  have HLI : Hid _ := HLN
  rw [← hS]
  clear HLN
  obtain ⟨n, hn⟩ : ∃ n, n = (lns s).length := ⟨_, rfl⟩
  rw [← hn] at HLI
  have HN : Hid (n = (lns s).length) := hn
  have HSZ : Hid (S.size = s.length) := hSz
  have hSm : S.size ≤ 1048576 := by omega
  have HSS : Hid (S = bs s) := hS
  clear hS hSz hn
  go_enter Tryz.func22, Tryz.ntmps22
  go_upto_region 2 with fail
  rw [HE0.out, ← hz]
  clear HE0 hz
  go_wp2_with fail
  refine Calls.mono HLI.out ?_
  rintro e w1 ⟨⟨gl, cl, rfl, ho⟩, hb⟩
  have HB1 : Hid (Below w.heap.size w w1) := HB0.out.trans (hb.mono HB0.out.size)
  have HR1 : Hid (Mf w1 w.heap.size [.slice none 0 0, .int .i64 0, .string ⟨#[]⟩, .int .i64 0, .slice none 0 0, .int .i64 0, .bool false, .int .i64 0, .int .i64 0, .int .i64 0, .slice none 0 0]) := HR0.out.below hb
  have HZ1 : Hid (Mf w1 z [.slice none 0 0, .int .i64 0, .string ⟨#[]⟩, .int .i64 0, .slice none 0 0, .int .i64 0, .bool false, .int .i64 0, .int .i64 0, .int .i64 0, .slice none 0 0]) := HZ0.out.below hb
  have HO1 : Hid (Ost w1 X0.heap.size (.slice (some ⟨gl, 0, none⟩) n cl) (lns s)) := ho
  clear hb ho HB0 HR0 HZ0 HLI
  by_cases h4 : (400000 : Int) < (S.size : Int)
  · have HF : Hid (ldM s = none) := ldM_long (by have := HSZ.out; omega)
    have HFN : Hid _ := fin11 HR1.out HB1.out (Nat.le_refl _) (.slice none 0 0) (.int .i64 0) (.string ⟨#[]⟩) (.int .i64 0) (.slice none 0 0) (.int .i64 0) (.bool false) (.int .i64 0) (.int .i64 0) (.int .i64 0) (.slice none 0 0)
    obtain ⟨d0, d1, d2, d3, d4, d5, d6, d7, d8, d9, d10, z0, z1, z2, z3, z4, z5, z6, z7, z8, z9, z10⟩ := HR1.out.all
    obtain ⟨a0, a1, a2, a3, a4, a5, a6, a7, a8, a9, a10, y0, y1, y2, y3, y4, y5, y6, y7, y8, y9, y10⟩ := HZ1.out.all
    go_wp2
    clear d0 d1 d2 d3 d4 d5 d6 d7 d8 d9 d10 z0 z1 z2 z3 z4 z5 z6 z7 z8 z9 z10 a0 a1 a2 a3 a4 a5 a6 a7 a8 a9 a10 y0 y1 y2 y3 y4 y5 y6 y7 y8 y9 y10
    obtain ⟨WF, hWF, HMF, hbz, KF⟩ := HFN.out
    rw [← hWF]
    exact bodyPost_ret (res_m (r := w.heap.size) (b := false) rfl rfl HMF) rfl ⟨LsP.no HF.out, hbz⟩
  by_cases h7 : (n : Int) < 7
  · have HF : Hid (ldM s = none) := ldM_fit (fit_len (.inl (by have := HN.out; omega)))
    have HFN : Hid _ := fin11 HR1.out HB1.out (Nat.le_refl _) (.slice none 0 0) (.int .i64 0) (.string ⟨#[]⟩) (.int .i64 0) (.slice none 0 0) (.int .i64 0) (.bool false) (.int .i64 0) (.int .i64 0) (.int .i64 0) (.slice none 0 0)
    obtain ⟨d0, d1, d2, d3, d4, d5, d6, d7, d8, d9, d10, z0, z1, z2, z3, z4, z5, z6, z7, z8, z9, z10⟩ := HR1.out.all
    obtain ⟨a0, a1, a2, a3, a4, a5, a6, a7, a8, a9, a10, y0, y1, y2, y3, y4, y5, y6, y7, y8, y9, y10⟩ := HZ1.out.all
    go_wp2
    clear d0 d1 d2 d3 d4 d5 d6 d7 d8 d9 d10 z0 z1 z2 z3 z4 z5 z6 z7 z8 z9 z10 a0 a1 a2 a3 a4 a5 a6 a7 a8 a9 a10 y0 y1 y2 y3 y4 y5 y6 y7 y8 y9 y10
    obtain ⟨WF, hWF, HMF, hbz, KF⟩ := HFN.out
    rw [← hWF]
    exact bodyPost_ret (res_m (r := w.heap.size) (b := false) rfl rfl HMF) rfl ⟨LsP.no HF.out, hbz⟩
  by_cases h47 : (47 : Int) < (n : Int)
  · have HF : Hid (ldM s = none) := ldM_fit (fit_len (.inr (by have := HN.out; omega)))
    have HFN : Hid _ := fin11 HR1.out HB1.out (Nat.le_refl _) (.slice none 0 0) (.int .i64 0) (.string ⟨#[]⟩) (.int .i64 0) (.slice none 0 0) (.int .i64 0) (.bool false) (.int .i64 0) (.int .i64 0) (.int .i64 0) (.slice none 0 0)
    obtain ⟨d0, d1, d2, d3, d4, d5, d6, d7, d8, d9, d10, z0, z1, z2, z3, z4, z5, z6, z7, z8, z9, z10⟩ := HR1.out.all
    obtain ⟨a0, a1, a2, a3, a4, a5, a6, a7, a8, a9, a10, y0, y1, y2, y3, y4, y5, y6, y7, y8, y9, y10⟩ := HZ1.out.all
    go_wp2
    clear d0 d1 d2 d3 d4 d5 d6 d7 d8 d9 d10 z0 z1 z2 z3 z4 z5 z6 z7 z8 z9 z10 a0 a1 a2 a3 a4 a5 a6 a7 a8 a9 a10 y0 y1 y2 y3 y4 y5 y6 y7 y8 y9 y10
    obtain ⟨WF, hWF, HMF, hbz, KF⟩ := HFN.out
    rw [← hWF]
    exact bodyPost_ret (res_m (r := w.heap.size) (b := false) rfl rfl HMF) rfl ⟨LsP.no HF.out, hbz⟩
  obtain ⟨WW, hWW⟩ : ∃ W, W = (lns s).map wds := ⟨_, rfl⟩
  have HWW : Hid (WW = (lns s).map wds) := hWW
  have HGZ : Hid (Gw (w1.alloc (.cells #[] 91)) w1.heap.size w1.heap.size 0 0 (fun _ => 0) (fun _ => 0) WW) := Gw.zero w1 w1.heap.size (Nat.le_refl _) WW
  clear hWW
  go_wp2
  go_loopw [6, 7] (fun v i wr => ∃ (k gw cp : Nat) (gr cr : Nat → Nat), k ≤ n ∧ i = .int .i64 k ∧ v = .slice (some ⟨gw, 0, none⟩) k cp ∧ Gw wr w1.heap.size gw cp k gr cr WW ∧ Below w1.heap.size w1 wr ∧ ∀ j, j < k → fit1 j (WW.getD j []).length) (fun _ i _ => n - (intOf i).toNat)
  case atStart => exact ⟨0, w1.heap.size, 0, _, _, Nat.zero_le _, rfl, rfl, HGZ.out, (Below.refl _ _).alloc (Nat.le_refl _) _, fun j hj => by omega⟩
  case round =>
    clear HGZ
    obtain ⟨k, gw, cp, gr, cr, hk, rfl, rfl, hG, hbr, hf⟩ := hrel
    have HG : Hid (Gw wr w1.heap.size gw cp k gr cr WW) := hG
    have HBR : Hid (Below w1.heap.size w1 wr) := hbr
    have HF1 : Hid (∀ j, j < k → fit1 j (WW.getD j []).length) := hf
    clear hG hbr hf
    by_cases hlt : k < n
    · have hkz : (k : Int) < (n : Int) := by omega
      have hkl : k < (lns s).length := by have := HN.out; omega
      obtain ⟨LN, hLN⟩ : ∃ L, L = (lns s)[k] := ⟨_, rfl⟩
      have HCL : Hid (wr.cell? ⟨gl, k, none⟩ = some (.string (bs LN))) := by
        show _ = _
        have h1 := Ap5.Ost.cells HO1.out k hkl
        rw [HBR.out.cell (p := ⟨gl, k, none⟩) (lt_of_cell h1), hLN]
        exact h1
      have hLl : LN.length ≤ 1048576 := by rw [hLN]; have := lns_le (List.getElem_mem hkl); omega
      have hWk : WW.getD k [] = wds LN := by rw [HWW.out, wrow hkl, hLN]
      have HWD := sWords (bs LN) wr (by rw [bs_size]; exact hLl)
      rw [tl_bs] at HWD
      obtain ⟨ln, hln⟩ : ∃ l, l = (wds LN).length := ⟨_, rfl⟩
      rw [← hln] at HWD
      have HWS : Hid _ := HWD
      have HLN : Hid (ln = (WW.getD k []).length) := by show _ = _; rw [hWk]; exact hln
      have HLW : Hid (WW.getD k [] = wds LN ∧ LN = (lns s)[k]) := ⟨hWk, hLN⟩
      clear HWD hLN hWk hln
      have c0 := HCL.out
      obtain ⟨LB, hLB⟩ : ∃ B, B = bs LN := ⟨_, rfl⟩
      rw [← hLB] at c0 HWS
      clear hLB HCL
      go_wp2_with fail
      clear c0
      refine Calls.mono HWS.out ?_
      rintro e w3 ⟨⟨g, c, rfl, ho⟩, hb⟩
      have HG3 : Hid (Gw w3 w1.heap.size gw cp k gr cr WW) := HG.out.below hb
      have HB13 : Hid (Below w1.heap.size w1 w3) := HBR.out.trans (hb.mono HBR.out.size)
      have HB3 : Hid (Below w.heap.size w w3) := HB1.out.trans (HB13.out.mono HB1.out.size)
      have HR3 : Hid (Mf w3 w.heap.size [.slice none 0 0, .int .i64 0, .string ⟨#[]⟩, .int .i64 0, .slice none 0 0, .int .i64 0, .bool false, .int .i64 0, .int .i64 0, .int .i64 0, .slice none 0 0]) := HR1.out.below HB13.out
      have HZ3 : Hid (Mf w3 z [.slice none 0 0, .int .i64 0, .string ⟨#[]⟩, .int .i64 0, .slice none 0 0, .int .i64 0, .bool false, .int .i64 0, .int .i64 0, .int .i64 0, .slice none 0 0]) := HZ1.out.below HB13.out
      have HGX : Hid (wr.heap.size ≤ g ∧ g < w3.heap.size) := ho.lt g rfl
      have HGL : Hid (g < w3.heap.size) := HGX.out.2
      have HGG : Hid (g ≠ gw) := by show _ ≠ _; have := HGX.out.1; have := HG.out.lt; omega
      have HGB : Hid (w1.heap.size ≤ g) := by show _ ≤ _; have := HGX.out.1; have := HBR.out.size; omega
      have HST : Hid (∀ x, x < (WW.getD k []).length → w3.cell? ⟨g, x, none⟩ = some (.string (bs (wat WW k x)))) := fun x hx => by
        have hx2 : x < (wds LN).length := by rw [← HLW.out.1]; exact hx
        have := Ap5.Ost.cells ho x hx2
        rw [this, HWW.out]
        have e := HLW.out.2
        subst e
        rw [wcell hkl hx2]
      clear ho hb HWS HG HBR HGX
      by_cases hft : fit1 k ln
      · have HFT : Hid (fit1 k ln) := hft
        have h2 : ¬ (ln : Int) < 2 := by have := hft.1; omega
        by_cases k6 : k = 6
        · have q6 : ((k : Int) == 6) = true := by rw [k6]; rfl
          have q4 : ((ln : Int) != 4) = false := by rw [hft.2.1 k6]; rfl
          have g6 : ¬ (6 : Int) < (k : Int) := by omega
          clear hft k6
          go_wp2_with (at_builtin; go_must (refine app_row w3 rfl _ _ rfl w1.heap.size (.slice (some ⟨gw, 0, none⟩) k cp) ((List.range k).map fun j => .slice (some ⟨gr j, 0, none⟩) (WW.getD j []).length (cr j)) (some ⟨g, 0, none⟩) ln c rfl rfl HG3.out.own HB13.out.size (by rw [List.length_map, List.length_range]; omega) ?_; rw [show ((List.range k).map fun j => Value.slice (some ⟨gr j, 0, none⟩) (WW.getD j []).length (cr j)).length = k by simp]; intro g5 cp5 w5 ho5 hk5 hg5; have HO5 : Hid (Owv w5 w1.heap.size (.slice (some ⟨g5, 0, none⟩) (k + 1) cp5) (((List.range k).map fun j => .slice (some ⟨gr j, 0, none⟩) (WW.getD j []).length (cr j)) ++ [.slice (some ⟨g, 0, none⟩) ln c])) := ho5; have HK5 : Hid (Kept (fun i => i = gw) w3 w5) := kept_own hk5; have HG5 : Hid (g5 = gw ∨ w3.heap.size ≤ g5) := own_or hg5; clear ho5 hk5 hg5))
          go_roundw
          case rel =>
            refine ⟨k + 1, g5, cp5, _, _, by omega, by go_num, rfl, Gw.more HG3.out HGL.out HGG.out HGB.out HST.out (by rw [← HLN.out]; exact HO5.out) HK5.out HG5.out, HB13.out.trans (HK5.out.below (fun i hi => by rw [hi]; exact HG3.out.lt.1) HB13.out.size), ?_⟩
            intro j hj
            by_cases e : j = k
            · rw [e, ← HLN.out]; exact HFT.out
            · exact HF1.out j (by omega)
          case measure => simp [intOf]; omega
        have q6 : ((k : Int) == 6) = false := beq_eq_false_iff_ne.2 (by omega)
        by_cases g6 : (6 : Int) < (k : Int)
        · have q3 : ((ln : Int) != 3) = false := by rw [hft.2.2 (by omega)]; rfl
          clear hft k6
          go_wp2_with (at_builtin; go_must (refine app_row w3 rfl _ _ rfl w1.heap.size (.slice (some ⟨gw, 0, none⟩) k cp) ((List.range k).map fun j => .slice (some ⟨gr j, 0, none⟩) (WW.getD j []).length (cr j)) (some ⟨g, 0, none⟩) ln c rfl rfl HG3.out.own HB13.out.size (by rw [List.length_map, List.length_range]; omega) ?_; rw [show ((List.range k).map fun j => Value.slice (some ⟨gr j, 0, none⟩) (WW.getD j []).length (cr j)).length = k by simp]; intro g5 cp5 w5 ho5 hk5 hg5; have HO5 : Hid (Owv w5 w1.heap.size (.slice (some ⟨g5, 0, none⟩) (k + 1) cp5) (((List.range k).map fun j => .slice (some ⟨gr j, 0, none⟩) (WW.getD j []).length (cr j)) ++ [.slice (some ⟨g, 0, none⟩) ln c])) := ho5; have HK5 : Hid (Kept (fun i => i = gw) w3 w5) := kept_own hk5; have HG5 : Hid (g5 = gw ∨ w3.heap.size ≤ g5) := own_or hg5; clear ho5 hk5 hg5))
          go_roundw
          case rel =>
            refine ⟨k + 1, g5, cp5, _, _, by omega, by go_num, rfl, Gw.more HG3.out HGL.out HGG.out HGB.out HST.out (by rw [← HLN.out]; exact HO5.out) HK5.out HG5.out, HB13.out.trans (HK5.out.below (fun i hi => by rw [hi]; exact HG3.out.lt.1) HB13.out.size), ?_⟩
            intro j hj
            by_cases e : j = k
            · rw [e, ← HLN.out]; exact HFT.out
            · exact HF1.out j (by omega)
          case measure => simp [intOf]; omega
        clear hft k6
        go_wp2_with (at_builtin; go_must (refine app_row w3 rfl _ _ rfl w1.heap.size (.slice (some ⟨gw, 0, none⟩) k cp) ((List.range k).map fun j => .slice (some ⟨gr j, 0, none⟩) (WW.getD j []).length (cr j)) (some ⟨g, 0, none⟩) ln c rfl rfl HG3.out.own HB13.out.size (by rw [List.length_map, List.length_range]; omega) ?_; rw [show ((List.range k).map fun j => Value.slice (some ⟨gr j, 0, none⟩) (WW.getD j []).length (cr j)).length = k by simp]; intro g5 cp5 w5 ho5 hk5 hg5; have HO5 : Hid (Owv w5 w1.heap.size (.slice (some ⟨g5, 0, none⟩) (k + 1) cp5) (((List.range k).map fun j => .slice (some ⟨gr j, 0, none⟩) (WW.getD j []).length (cr j)) ++ [.slice (some ⟨g, 0, none⟩) ln c])) := ho5; have HK5 : Hid (Kept (fun i => i = gw) w3 w5) := kept_own hk5; have HG5 : Hid (g5 = gw ∨ w3.heap.size ≤ g5) := own_or hg5; clear ho5 hk5 hg5))
        go_roundw
        case rel =>
          refine ⟨k + 1, g5, cp5, _, _, by omega, by go_num, rfl, Gw.more HG3.out HGL.out HGG.out HGB.out HST.out (by rw [← HLN.out]; exact HO5.out) HK5.out HG5.out, HB13.out.trans (HK5.out.below (fun i hi => by rw [hi]; exact HG3.out.lt.1) HB13.out.size), ?_⟩
          intro j hj
          by_cases e : j = k
          · rw [e, ← HLN.out]; exact HFT.out
          · exact HF1.out j (by omega)
        case measure => simp [intOf]; omega
      · have HF : Hid (ldM s = none) := by
          refine ldM_fit (fit_no hkl ?_)
          have e := HLW.out
          rw [← e.2, ← e.1, ← HLN.out]
          exact hft
        by_cases h2 : (ln : Int) < 2
        · clear hft
          have HFN : Hid _ := fin11 HR3.out HB3.out (Nat.le_refl _) (.slice none 0 0) (.int .i64 0) (.string ⟨#[]⟩) (.int .i64 0) (.slice none 0 0) (.int .i64 0) (.bool false) (.int .i64 0) (.int .i64 0) (.int .i64 0) (.slice none 0 0)
          obtain ⟨d0, d1, d2, d3, d4, d5, d6, d7, d8, d9, d10, z0, z1, z2, z3, z4, z5, z6, z7, z8, z9, z10⟩ := HR3.out.all
          obtain ⟨a0, a1, a2, a3, a4, a5, a6, a7, a8, a9, a10, y0, y1, y2, y3, y4, y5, y6, y7, y8, y9, y10⟩ := HZ3.out.all
          go_wp2
          clear d0 d1 d2 d3 d4 d5 d6 d7 d8 d9 d10 z0 z1 z2 z3 z4 z5 z6 z7 z8 z9 z10 a0 a1 a2 a3 a4 a5 a6 a7 a8 a9 a10 y0 y1 y2 y3 y4 y5 y6 y7 y8 y9 y10
          obtain ⟨WF, hWF, HMF, hbz, KF⟩ := HFN.out
          rw [← hWF]
          exact bodyPost_ret (res_m (r := w.heap.size) (b := false) rfl rfl HMF) rfl ⟨LsP.no HF.out, hbz⟩
        by_cases k6 : k = 6
        · have q6 : ((k : Int) == 6) = true := by rw [k6]; rfl
          have q4 : ((ln : Int) != 4) = true := bne_iff_ne.2 (fun e => hft ⟨by omega, fun _ => by omega, fun _ => by omega⟩)
          have g6 : ¬ (6 : Int) < (k : Int) := by omega
          clear hft k6
          have HFN : Hid _ := fin11 HR3.out HB3.out (Nat.le_refl _) (.slice none 0 0) (.int .i64 0) (.string ⟨#[]⟩) (.int .i64 0) (.slice none 0 0) (.int .i64 0) (.bool false) (.int .i64 0) (.int .i64 0) (.int .i64 0) (.slice none 0 0)
          obtain ⟨d0, d1, d2, d3, d4, d5, d6, d7, d8, d9, d10, z0, z1, z2, z3, z4, z5, z6, z7, z8, z9, z10⟩ := HR3.out.all
          obtain ⟨a0, a1, a2, a3, a4, a5, a6, a7, a8, a9, a10, y0, y1, y2, y3, y4, y5, y6, y7, y8, y9, y10⟩ := HZ3.out.all
          go_wp2
          clear d0 d1 d2 d3 d4 d5 d6 d7 d8 d9 d10 z0 z1 z2 z3 z4 z5 z6 z7 z8 z9 z10 a0 a1 a2 a3 a4 a5 a6 a7 a8 a9 a10 y0 y1 y2 y3 y4 y5 y6 y7 y8 y9 y10
          obtain ⟨WF, hWF, HMF, hbz, KF⟩ := HFN.out
          rw [← hWF]
          exact bodyPost_ret (res_m (r := w.heap.size) (b := false) rfl rfl HMF) rfl ⟨LsP.no HF.out, hbz⟩
        have q6 : ((k : Int) == 6) = false := beq_eq_false_iff_ne.2 (by omega)
        have g6 : (6 : Int) < (k : Int) := Classical.byContradiction fun e => hft ⟨by omega, fun _ => by omega, fun _ => by omega⟩
        have q3 : ((ln : Int) != 3) = true := bne_iff_ne.2 (fun e => hft ⟨by omega, fun _ => by omega, fun _ => by omega⟩)
        clear hft k6
        have HFN : Hid _ := fin11 HR3.out HB3.out (Nat.le_refl _) (.slice none 0 0) (.int .i64 0) (.string ⟨#[]⟩) (.int .i64 0) (.slice none 0 0) (.int .i64 0) (.bool false) (.int .i64 0) (.int .i64 0) (.int .i64 0) (.slice none 0 0)
        obtain ⟨d0, d1, d2, d3, d4, d5, d6, d7, d8, d9, d10, z0, z1, z2, z3, z4, z5, z6, z7, z8, z9, z10⟩ := HR3.out.all
        obtain ⟨a0, a1, a2, a3, a4, a5, a6, a7, a8, a9, a10, y0, y1, y2, y3, y4, y5, y6, y7, y8, y9, y10⟩ := HZ3.out.all
        go_wp2
        clear d0 d1 d2 d3 d4 d5 d6 d7 d8 d9 d10 z0 z1 z2 z3 z4 z5 z6 z7 z8 z9 z10 a0 a1 a2 a3 a4 a5 a6 a7 a8 a9 a10 y0 y1 y2 y3 y4 y5 y6 y7 y8 y9 y10
        obtain ⟨WF, hWF, HMF, hbz, KF⟩ := HFN.out
        rw [← hWF]
        exact bodyPost_ret (res_m (r := w.heap.size) (b := false) rfl rfl HMF) rfl ⟨LsP.no HF.out, hbz⟩
    · have hkz : ¬ (k : Int) < (n : Int) := by omega
      have ekn : k = n := by omega
      subst ekn
      have HFY : Hid (fitW ((lns s).map wds) = true) := fit_yes (by have := HN.out; omega) (by have := HN.out; omega) (fun i hi => by rw [← HWW.out]; exact HF1.out i (by have := HN.out; omega))
      obtain ⟨ls, hls⟩ : ∃ f : Nat → Nat, f = fun j => (WW.getD j []).length := ⟨_, rfl⟩
      obtain ⟨ws, hws⟩ : ∃ f : Nat → Nat → ByteArray, f = fun i j => bs (wat WW i j) := ⟨_, rfl⟩
      have HLS : Hid (∀ j, j < k → 2 ≤ ls j ∧ (j = 6 → ls j = 4) ∧ (6 < j → ls j = 3)) := fun j hj => by rw [hls]; exact HF1.out j hj
      have HWZ : Hid (∀ i j, (ws i j).size ≤ 1048576 ∧ tl (ws i j) = wat WW i j) := fun i j => by
        rw [hws]
        have h1 := wat_le s i j
        rw [← HWW.out] at h1
        refine ⟨?_, tl_bs _⟩
        show (bs (wat WW i j)).size ≤ _
        rw [bs_size]; omega
      have HGR : Hid (∀ W, Below wr.heap.size wr W → (∀ i, i < k → W.cell? ⟨gw, i, none⟩ = some (.slice (some ⟨gr i, 0, none⟩) (ls i) (cr i))) ∧ ∀ i j, i < k → j < ls i → W.cell? ⟨gr i, j, none⟩ = some (.string (ws i j))) := fun W hW => by
        rw [hls, hws]
        exact ⟨fun i hi => (HG.out.below hW).row hi, fun i j hi hj => (HG.out.below hW).wrd i j hi hj⟩
      have HB3 : Hid (Below w.heap.size w wr) := HB1.out.trans (HBR.out.mono HB1.out.size)
      have HR3 : Hid (Mf wr w.heap.size [.slice none 0 0, .int .i64 0, .string ⟨#[]⟩, .int .i64 0, .slice none 0 0, .int .i64 0, .bool false, .int .i64 0, .int .i64 0, .int .i64 0, .slice none 0 0]) := HR1.out.below HBR.out
      have HZ3 : Hid (Mf wr z [.slice none 0 0, .int .i64 0, .string ⟨#[]⟩, .int .i64 0, .slice none 0 0, .int .i64 0, .bool false, .int .i64 0, .int .i64 0, .int .i64 0, .slice none 0 0]) := HZ1.out.below HBR.out
      have HGT : Hid (w.heap.size + 1 < gw ∧ ∀ j, j < k → w.heap.size + 1 < gr j) := by
        have h1 := HG.out.lt.1
        have h2 := HX0.out
        have h3 := HO1.out.lt gl rfl
        exact ⟨by omega, fun j hj => by have := (HG.out.lo j hj).1; omega⟩
      have HGQ : Hid (gw < wr.heap.size) := HG.out.lt.2
      clear hls hws HF1 HG HO1 HR1 HZ1
      have k7 : 7 ≤ k := by omega
      have k0z : (0 : Int) < (k : Int) := by omega
      have k1z : (1 : Int) < (k : Int) := by omega
      have l0z : (1 : Int) < (ls 0 : Int) := by have := (HLS.out 0 (by omega)).1; omega
      have l1z : (1 : Int) < (ls 1 : Int) := by have := (HLS.out 1 (by omega)).1; omega
      have a0 := (HGR.out wr (Below.refl _ _)).1 0 (by omega)
      have b0 := (HGR.out wr (Below.refl _ _)).2 0 1 (by omega) (by omega)
      have HRW := sReadRow (ws 0 1) wr (HWZ.out 0 1).1
      rw [(HWZ.out 0 1).2] at HRW
      obtain ⟨rb, hrb⟩ : ∃ b, b = rrB (wat WW 0 1) := ⟨_, rfl⟩
      rw [← hrb] at HRW
      have HRB : Hid (rb = rrB (wat WW 0 1)) := hrb
      have HRR : Hid _ := HRW
      clear HRW hrb
      go_wp2_with fail
      clear a0 b0
      refine Calls.mono HRR.out ?_
      rintro e w4 ⟨v4, rfl, ho, hb⟩
      obtain ⟨ra, rc, ev, hwb⟩ := ho.form
      subst ev
      have HBL4 : Hid (Below wr.heap.size wr w4) := hb
      have HB4 : Hid (Below w.heap.size w w4) := HB3.out.trans (hb.mono HB3.out.size)
      have HR4 : Hid (Mf w4 w.heap.size [.slice none 0 0, .int .i64 0, .string ⟨#[]⟩, .int .i64 0, .slice none 0 0, .int .i64 0, .bool false, .int .i64 0, .int .i64 0, .int .i64 0, .slice none 0 0]) := HR3.out.below hb
      have HZ4 : Hid (Mf w4 z [.slice none 0 0, .int .i64 0, .string ⟨#[]⟩, .int .i64 0, .slice none 0 0, .int .i64 0, .bool false, .int .i64 0, .int .i64 0, .int .i64 0, .slice none 0 0]) := HZ3.out.below hb
      have HRL4 : Hid (BoolsIn w4 wr.heap.size w4.heap.size ra (rrL (wat WW 0 1))) := Nd6.WBools.within hwb
      clear ho hb hwb HRR HR3 HZ3 HB3
      obtain ⟨R0, hR0⟩ : ∃ R, R = rrL (wat WW 0 1) := ⟨_, rfl⟩
      have HR0 : Hid (R0 = rrL (wat WW 0 1)) := hR0
      rw [← hR0] at HRL4 ⊢
      clear hR0
      have a1 := (HGR.out w4 HBL4.out).1 1 (by omega)
      have b1 := (HGR.out w4 HBL4.out).2 1 1 (by omega) (by omega)
      have HKW := sReadKey (ws 1 1) w4 (HWZ.out 1 1).1
      unfold RkP at HKW
      rw [(HWZ.out 1 1).2] at HKW
      obtain ⟨kb, hkb⟩ : ∃ b, b = rkB (wat WW 1 1) := ⟨_, rfl⟩
      obtain ⟨N1, hN1⟩ : ∃ x, x = if rkB (wat WW 1 1) = true then rkN (wat WW 1 1) else 0 := ⟨_, rfl⟩
      obtain ⟨T1, hT1⟩ : ∃ x, x = bs (if rkB (wat WW 1 1) = true then cutS 58 (wat WW 1 1) else []) := ⟨_, rfl⟩
      rw [← hN1, ← hT1, ← hkb] at HKW
      have HKB : Hid (kb = rkB (wat WW 1 1)) := hkb
      have HNT : Hid (kb = true → N1 = rkN (wat WW 1 1) ∧ T1 = bs (cutS 58 (wat WW 1 1))) := fun h => by
        rw [hkb] at h
        rw [hN1, hT1, if_pos h, if_pos h]; exact ⟨rfl, rfl⟩
      have HKR : Hid _ := HKW
      clear HKW hkb hN1 hT1
      go_wp2_with fail
      clear a1 b1
      refine Calls.mono HKR.out ?_
      rintro e w5 ⟨rfl, hb⟩
      go_upto_region 15 with fail
      obtain ⟨w6, hw6⟩ : ∃ X, X = w5.alloc (.cells #[.int .i64 N1, .string T1] 26) := ⟨_, rfl⟩
      obtain ⟨qt, hqt⟩ : ∃ q, q = w5.heap.size := ⟨_, rfl⟩
      have hb6 : Below w4.heap.size w4 w6 := by rw [hw6]; exact hb.alloc hb.size _
      have HT6 : Hid (Tc5.Lay w6 qt (.int .i64 N1) (.string T1)) := by rw [hw6, hqt]; exact Tc5.Lay.made _ _ _ _
      rw [← hw6, ← hqt]
      have HBL6 : Hid (Below wr.heap.size wr w6) := HBL4.out.trans (hb6.mono HBL4.out.size)
      have HB6 : Hid (Below w.heap.size w w6) := HB4.out.trans (hb6.mono HB4.out.size)
      have HR6 : Hid (Mf w6 w.heap.size [.slice none 0 0, .int .i64 0, .string ⟨#[]⟩, .int .i64 0, .slice none 0 0, .int .i64 0, .bool false, .int .i64 0, .int .i64 0, .int .i64 0, .slice none 0 0]) := HR4.out.below hb6
      have HZ6 : Hid (Mf w6 z [.slice none 0 0, .int .i64 0, .string ⟨#[]⟩, .int .i64 0, .slice none 0 0, .int .i64 0, .bool false, .int .i64 0, .int .i64 0, .int .i64 0, .slice none 0 0]) := HZ4.out.below hb6
      have HRL6 : Hid (BoolsIn w6 wr.heap.size w4.heap.size ra R0) := HRL4.out.below hb6
      have HU46 : Hid (w4.heap.size ≤ w6.heap.size) := hb6.size
      clear hw6 hqt hb hb6 HB4 HR4 HZ4 HRL4 HBL4 HKR
      cases rb
      · have HF : Hid (ldM s = none) := ldM_keys (by rw [← HWW.out, ← HRB.out]; rfl)
        have HFN : Hid _ := fin11 HR6.out HB6.out (Nat.le_refl _) (.slice none 0 0) (.int .i64 0) (.string ⟨#[]⟩) (.int .i64 0) (.slice none 0 0) (.int .i64 0) (.bool false) (.int .i64 0) (.int .i64 0) (.int .i64 0) (.slice none 0 0)
        obtain ⟨d0, d1, d2, d3, d4, d5, d6, d7, d8, d9, d10, z0, z1, z2, z3, z4, z5, z6, z7, z8, z9, z10⟩ := HR6.out.all
        obtain ⟨a0, a1, a2, a3, a4, a5, a6, a7, a8, a9, a10, y0, y1, y2, y3, y4, y5, y6, y7, y8, y9, y10⟩ := HZ6.out.all
        go_wp2
        clear d0 d1 d2 d3 d4 d5 d6 d7 d8 d9 d10 z0 z1 z2 z3 z4 z5 z6 z7 z8 z9 z10 a0 a1 a2 a3 a4 a5 a6 a7 a8 a9 a10 y0 y1 y2 y3 y4 y5 y6 y7 y8 y9 y10
        obtain ⟨WF, hWF, HMF, hbz, KF⟩ := HFN.out
        rw [← hWF]
        exact bodyPost_ret (res_m (r := w.heap.size) (b := false) rfl rfl HMF) rfl ⟨LsP.no HF.out, hbz⟩
      cases kb
      · have HF : Hid (ldM s = none) := ldM_keys (by rw [← HWW.out, ← HRB.out, ← HKB.out]; rfl)
        have HFN : Hid _ := fin11 HR6.out HB6.out (Nat.le_refl _) (.slice none 0 0) (.int .i64 0) (.string ⟨#[]⟩) (.int .i64 0) (.slice none 0 0) (.int .i64 0) (.bool false) (.int .i64 0) (.int .i64 0) (.int .i64 0) (.slice none 0 0)
        obtain ⟨d0, d1, d2, d3, d4, d5, d6, d7, d8, d9, d10, z0, z1, z2, z3, z4, z5, z6, z7, z8, z9, z10⟩ := HR6.out.all
        obtain ⟨a0, a1, a2, a3, a4, a5, a6, a7, a8, a9, a10, y0, y1, y2, y3, y4, y5, y6, y7, y8, y9, y10⟩ := HZ6.out.all
        go_wp2
        clear d0 d1 d2 d3 d4 d5 d6 d7 d8 d9 d10 z0 z1 z2 z3 z4 z5 z6 z7 z8 z9 z10 a0 a1 a2 a3 a4 a5 a6 a7 a8 a9 a10 y0 y1 y2 y3 y4 y5 y6 y7 y8 y9 y10
        obtain ⟨WF, hWF, HMF, hbz, KF⟩ := HFN.out
        rw [← hWF]
        exact bodyPost_ret (res_m (r := w.heap.size) (b := false) rfl rfl HMF) rfl ⟨LsP.no HF.out, hbz⟩
      obtain ⟨hN1, hT1⟩ := HNT.out rfl
      have HN1 : Hid (N1 = rkN (wat WW 1 1)) := hN1
      have HT1 : Hid (T1 = bs (cutS 58 (wat WW 1 1))) := hT1
      have HMD : Hid (ldM s = if okL s (madeW WW) = true then some (madeW WW) else none) := by
        show _ = _
        rw [HWW.out]
        exact ldM_made HFY.out (by rw [← HWW.out, ← HRB.out, ← HKB.out]; rfl)
      clear hN1 hT1 HNT HKB HRB HFY
      go_upto_region 17 with fail
      obtain ⟨iv, hiv⟩ : ∃ f : Nat → Nat → Int, f = fun i j => int2 (wat WW i j) := ⟨_, rfl⟩
      have HIV : Hid (iv = fun i j => int2 (wat WW i j)) := hiv
      have HIN : Hid (∀ i j W, Calls Tryz.prog 60 #[.string (ws i j)] W fun e w' => e = .returned (.int .i64 (iv i j)) ∧ w' = W) := fun i j W => by
        have := sIntB (ws i j) W (HWZ.out i j).1
        rw [(HWZ.out i j).2] at this
        rw [hiv]; exact this
      obtain ⟨ov, hov⟩ : ∃ b, ((ws 5 1).toList == [49]) = b := ⟨_, rfl⟩
      have HOV : Hid (((ws 5 1).toList == [49]) = ov) := hov
      have k2z : (2 : Int) < (k : Int) := by omega
      have k4z : (4 : Int) < (k : Int) := by omega
      have k5z : (5 : Int) < (k : Int) := by omega
      have k6z : (6 : Int) < (k : Int) := by omega
      have l2z : (1 : Int) < (ls 2 : Int) := by have := (HLS.out 2 (by omega)).1; omega
      have l4z : (1 : Int) < (ls 4 : Int) := by have := (HLS.out 4 (by omega)).1; omega
      have l5z : (1 : Int) < (ls 5 : Int) := by have := (HLS.out 5 (by omega)).1; omega
      have l6z : (3 : Int) < (ls 6 : Int) := by have := (HLS.out 6 (by omega)).2.1 rfl; omega
      have l61 : (1 : Int) < (ls 6 : Int) := by omega
      have l62 : (2 : Int) < (ls 6 : Int) := by omega
      clear hiv
      go_cut [13] from 99 to 137 (fun s13 wc => ∃ q : Nat, s13 = .pointer (some ⟨q, 0, none⟩) ∧ w6.heap.size ≤ q ∧ Mf wc q [.slice ra R0.length rc, .int .i64 N1, .string T1, .int .i64 (iv 2 1), .slice none 0 0, .int .i64 (iv 4 1), .bool ov, .int .i64 (iv 6 1), .int .i64 (iv 6 2), .int .i64 (iv 6 3), .slice none 0 0] ∧ Below w6.heap.size w6 wc)
      case first =>
        go_wp2_with fail
        have HCL : Hid (∀ v, Below w6.heap.size w6 v → (∀ i, i < k → v.cell? ⟨gw, i, none⟩ = some (.slice (some ⟨gr i, 0, none⟩) (ls i) (cr i))) ∧ (∀ i j, i < k → j < ls i → v.cell? ⟨gr i, j, none⟩ = some (.string (ws i j))) ∧ v.cell? ⟨qt, 0, none⟩ = some (.int .i64 N1) ∧ v.cell? ⟨qt, 1, none⟩ = some (.string T1)) := fun v hv => by
          have h1 := HGR.out v (HBL6.out.trans (hv.mono HBL6.out.size))
          have h2 := HT6.out.below hv
          exact ⟨h1.1, h1.2, h2.c0, h2.c1⟩
        refine wp_region_held_drew (S := fun v => Below w6.heap.size w6 v) (by kernel_rfl) (Below.refl _ _).drew (fun hHeld => ?_)
        refine wpAnyH_take (i := 0) (v := ?_) rfl (by kernel_rfl) (by kernel_rfl) (by kernel_rfl) (fun _ _ _ h => h) (Or.inl ⟨by rfl, ?_⟩) hHeld ?_
        rotate_left
        · (intro v9 hS9; clear hS9; go_simp; try with_reducible rfl)
        try simp only [Act.put, List.setIfInBounds_toArray, List.set_cons_zero, List.set_cons_succ, List.getElem_toArray, List.getElem_cons_zero]
        refine wpAnyH_take (i := 1) (v := ?_) rfl (by kernel_rfl) (by kernel_rfl) (by kernel_rfl) (fun _ _ _ h => h) (Or.inl ⟨by rfl, ?_⟩) hHeld ?_
        rotate_left
        · (intro v9 hS9; have hc := (HCL.out v9 hS9).2.2; obtain ⟨c0, c1⟩ := hc; clear hS9; go_simp; try with_reducible rfl)
        try simp only [Act.put, List.setIfInBounds_toArray, List.set_cons_zero, List.set_cons_succ, List.getElem_toArray, List.getElem_cons_zero, List.getElem_cons_succ]
        refine wpAnyH_take (i := 2) (v := ?_) rfl (by kernel_rfl) (by kernel_rfl) (by kernel_rfl) (fun _ _ _ h => h) (Or.inl ⟨by rfl, ?_⟩) hHeld ?_
        rotate_left
        · (intro v9 hS9; clear hS9; go_simp; try with_reducible rfl)
        try simp only [Act.put, List.setIfInBounds_toArray, List.set_cons_zero, List.set_cons_succ, List.getElem_toArray, List.getElem_cons_zero, List.getElem_cons_succ]
        refine wpAnyH_take (i := 3) (v := ?_) rfl (by kernel_rfl) (by kernel_rfl) (by kernel_rfl) (fun _ _ _ h => h) (Or.inl ⟨by rfl, ?_⟩) hHeld ?_
        rotate_left
        · (intro v9 hS9; clear hS9; go_simp; try with_reducible rfl)
        try simp only [Act.put, List.setIfInBounds_toArray, List.set_cons_zero, List.set_cons_succ, List.getElem_toArray, List.getElem_cons_zero, List.getElem_cons_succ]
        refine wpAnyH_take (i := 4) (v := ?_) rfl (by kernel_rfl) (by kernel_rfl) (by kernel_rfl) (fun _ _ _ h => h) (Or.inl ⟨by rfl, ?_⟩) hHeld ?_
        rotate_left
        · (intro v9 hS9; have c0 := (HCL.out v9 hS9).1 2 (by omega); clear hS9; go_simp; try with_reducible rfl)
        try simp only [Act.put, List.setIfInBounds_toArray, List.set_cons_zero, List.set_cons_succ, List.getElem_toArray, List.getElem_cons_zero, List.getElem_cons_succ]
        refine wpAnyH_take (i := 5) (v := ?_) rfl (by kernel_rfl) (by kernel_rfl) (by kernel_rfl) (fun _ _ _ h => h) (Or.inl ⟨by rfl, ?_⟩) hHeld ?_
        rotate_left
        · (intro v9 hS9; clear hS9; go_simp; try with_reducible rfl)
        try simp only [Act.put, List.setIfInBounds_toArray, List.set_cons_zero, List.set_cons_succ, List.getElem_toArray, List.getElem_cons_zero, List.getElem_cons_succ]
        refine wpAnyH_take (i := 6) (v := ?_) rfl (by kernel_rfl) (by kernel_rfl) (by kernel_rfl) (fun _ _ _ h => h) (Or.inl ⟨by rfl, ?_⟩) hHeld ?_
        rotate_left
        · (intro v9 hS9; have c0 := (HCL.out v9 hS9).2.1 2 1 (by omega) (by omega); clear hS9; go_simp; try with_reducible rfl)
        try simp only [Act.put, List.setIfInBounds_toArray, List.set_cons_zero, List.set_cons_succ, List.getElem_toArray, List.getElem_cons_zero, List.getElem_cons_succ]
        refine wpAnyH_take (i := 8) (v := ?_) rfl (by kernel_rfl) (by kernel_rfl) (by kernel_rfl) (fun _ _ _ h => h) (Or.inl ⟨by rfl, ?_⟩) hHeld ?_
        rotate_left
        · (intro v9 hS9; clear hS9; go_simp; try with_reducible rfl)
        try simp only [Act.put, List.setIfInBounds_toArray, List.set_cons_zero, List.set_cons_succ, List.getElem_toArray, List.getElem_cons_zero, List.getElem_cons_succ]
        refine wpAnyH_take (i := 9) (v := ?_) rfl (by kernel_rfl) (by kernel_rfl) (by kernel_rfl) (fun _ _ _ h => h) (Or.inl ⟨by rfl, ?_⟩) hHeld ?_
        rotate_left
        · (intro v9 hS9; clear hS9; go_simp; try with_reducible rfl)
        try simp only [Act.put, List.setIfInBounds_toArray, List.set_cons_zero, List.set_cons_succ, List.getElem_toArray, List.getElem_cons_zero, List.getElem_cons_succ]
        refine wpAnyH_take (i := 10) (v := ?_) rfl (by kernel_rfl) (by kernel_rfl) (by kernel_rfl) (fun _ _ _ h => h) (Or.inl ⟨by rfl, ?_⟩) hHeld ?_
        rotate_left
        · (intro v9 hS9; have c0 := (HCL.out v9 hS9).1 4 (by omega); clear hS9; go_simp; try with_reducible rfl)
        try simp only [Act.put, List.setIfInBounds_toArray, List.set_cons_zero, List.set_cons_succ, List.getElem_toArray, List.getElem_cons_zero, List.getElem_cons_succ]
        refine wpAnyH_take (i := 11) (v := ?_) rfl (by kernel_rfl) (by kernel_rfl) (by kernel_rfl) (fun _ _ _ h => h) (Or.inl ⟨by rfl, ?_⟩) hHeld ?_
        rotate_left
        · (intro v9 hS9; clear hS9; go_simp; try with_reducible rfl)
        try simp only [Act.put, List.setIfInBounds_toArray, List.set_cons_zero, List.set_cons_succ, List.getElem_toArray, List.getElem_cons_zero, List.getElem_cons_succ]
        refine wpAnyH_take (i := 12) (v := ?_) rfl (by kernel_rfl) (by kernel_rfl) (by kernel_rfl) (fun _ _ _ h => h) (Or.inl ⟨by rfl, ?_⟩) hHeld ?_
        rotate_left
        · (intro v9 hS9; have c0 := (HCL.out v9 hS9).2.1 4 1 (by omega) (by omega); clear hS9; go_simp; try with_reducible rfl)
        try simp only [Act.put, List.setIfInBounds_toArray, List.set_cons_zero, List.set_cons_succ, List.getElem_toArray, List.getElem_cons_zero, List.getElem_cons_succ]
        refine wpAnyH_take (i := 14) (v := ?_) rfl (by kernel_rfl) (by kernel_rfl) (by kernel_rfl) (fun _ _ _ h => h) (Or.inl ⟨by rfl, ?_⟩) hHeld ?_
        rotate_left
        · (intro v9 hS9; clear hS9; go_simp; try with_reducible rfl)
        try simp only [Act.put, List.setIfInBounds_toArray, List.set_cons_zero, List.set_cons_succ, List.getElem_toArray, List.getElem_cons_zero, List.getElem_cons_succ]
        refine wpAnyH_take (i := 15) (v := ?_) rfl (by kernel_rfl) (by kernel_rfl) (by kernel_rfl) (fun _ _ _ h => h) (Or.inl ⟨by rfl, ?_⟩) hHeld ?_
        rotate_left
        · (intro v9 hS9; clear hS9; go_simp; try with_reducible rfl)
        try simp only [Act.put, List.setIfInBounds_toArray, List.set_cons_zero, List.set_cons_succ, List.getElem_toArray, List.getElem_cons_zero, List.getElem_cons_succ]
        refine wpAnyH_take (i := 16) (v := ?_) rfl (by kernel_rfl) (by kernel_rfl) (by kernel_rfl) (fun _ _ _ h => h) (Or.inl ⟨by rfl, ?_⟩) hHeld ?_
        rotate_left
        · (intro v9 hS9; have c0 := (HCL.out v9 hS9).1 5 (by omega); clear hS9; go_simp; try with_reducible rfl)
        try simp only [Act.put, List.setIfInBounds_toArray, List.set_cons_zero, List.set_cons_succ, List.getElem_toArray, List.getElem_cons_zero, List.getElem_cons_succ]
        refine wpAnyH_take (i := 17) (v := ?_) rfl (by kernel_rfl) (by kernel_rfl) (by kernel_rfl) (fun _ _ _ h => h) (Or.inl ⟨by rfl, ?_⟩) hHeld ?_
        rotate_left
        · (intro v9 hS9; clear hS9; go_simp; try with_reducible rfl)
        try simp only [Act.put, List.setIfInBounds_toArray, List.set_cons_zero, List.set_cons_succ, List.getElem_toArray, List.getElem_cons_zero, List.getElem_cons_succ]
        refine wpAnyH_take (i := 18) (v := ?_) rfl (by kernel_rfl) (by kernel_rfl) (by kernel_rfl) (fun _ _ _ h => h) (Or.inl ⟨by rfl, ?_⟩) hHeld ?_
        rotate_left
        · (intro v9 hS9; have c0 := (HCL.out v9 hS9).2.1 5 1 (by omega) (by omega); clear hS9; go_simp; try with_reducible rfl)
        try simp only [Act.put, List.setIfInBounds_toArray, List.set_cons_zero, List.set_cons_succ, List.getElem_toArray, List.getElem_cons_zero, List.getElem_cons_succ]
        refine wpAnyH_take (i := 19) (v := ?_) rfl (by kernel_rfl) (by kernel_rfl) (by kernel_rfl) (fun _ _ _ h => h) (Or.inl ⟨by rfl, ?_⟩) hHeld ?_
        rotate_left
        · (intro v9 hS9; clear hS9; have hov := HOV.out; go_simp; try with_reducible rfl)
        try simp only [Act.put, List.setIfInBounds_toArray, List.set_cons_zero, List.set_cons_succ, List.getElem_toArray, List.getElem_cons_zero, List.getElem_cons_succ]
        refine wpAnyH_take (i := 20) (v := ?_) rfl (by kernel_rfl) (by kernel_rfl) (by kernel_rfl) (fun _ _ _ h => h) (Or.inl ⟨by rfl, ?_⟩) hHeld ?_
        rotate_left
        · (intro v9 hS9; clear hS9; go_simp; try with_reducible rfl)
        try simp only [Act.put, List.setIfInBounds_toArray, List.set_cons_zero, List.set_cons_succ, List.getElem_toArray, List.getElem_cons_zero, List.getElem_cons_succ]
        refine wpAnyH_take (i := 21) (v := ?_) rfl (by kernel_rfl) (by kernel_rfl) (by kernel_rfl) (fun _ _ _ h => h) (Or.inl ⟨by rfl, ?_⟩) hHeld ?_
        rotate_left
        · (intro v9 hS9; clear hS9; go_simp; try with_reducible rfl)
        try simp only [Act.put, List.setIfInBounds_toArray, List.set_cons_zero, List.set_cons_succ, List.getElem_toArray, List.getElem_cons_zero, List.getElem_cons_succ]
        refine wpAnyH_take (i := 22) (v := ?_) rfl (by kernel_rfl) (by kernel_rfl) (by kernel_rfl) (fun _ _ _ h => h) (Or.inl ⟨by rfl, ?_⟩) hHeld ?_
        rotate_left
        · (intro v9 hS9; have c0 := (HCL.out v9 hS9).1 6 (by omega); clear hS9; go_simp; try with_reducible rfl)
        try simp only [Act.put, List.setIfInBounds_toArray, List.set_cons_zero, List.set_cons_succ, List.getElem_toArray, List.getElem_cons_zero, List.getElem_cons_succ]
        refine wpAnyH_take (i := 23) (v := ?_) rfl (by kernel_rfl) (by kernel_rfl) (by kernel_rfl) (fun _ _ _ h => h) (Or.inl ⟨by rfl, ?_⟩) hHeld ?_
        rotate_left
        · (intro v9 hS9; clear hS9; go_simp; try with_reducible rfl)
        try simp only [Act.put, List.setIfInBounds_toArray, List.set_cons_zero, List.set_cons_succ, List.getElem_toArray, List.getElem_cons_zero, List.getElem_cons_succ]
        refine wpAnyH_take (i := 24) (v := ?_) rfl (by kernel_rfl) (by kernel_rfl) (by kernel_rfl) (fun _ _ _ h => h) (Or.inl ⟨by rfl, ?_⟩) hHeld ?_
        rotate_left
        · (intro v9 hS9; have c0 := (HCL.out v9 hS9).2.1 6 1 (by omega) (by omega); clear hS9; go_simp; try with_reducible rfl)
        try simp only [Act.put, List.setIfInBounds_toArray, List.set_cons_zero, List.set_cons_succ, List.getElem_toArray, List.getElem_cons_zero, List.getElem_cons_succ]
        refine wpAnyH_take (i := 26) (v := ?_) rfl (by kernel_rfl) (by kernel_rfl) (by kernel_rfl) (fun _ _ _ h => h) (Or.inl ⟨by rfl, ?_⟩) hHeld ?_
        rotate_left
        · (intro v9 hS9; clear hS9; go_simp; try with_reducible rfl)
        try simp only [Act.put, List.setIfInBounds_toArray, List.set_cons_zero, List.set_cons_succ, List.getElem_toArray, List.getElem_cons_zero, List.getElem_cons_succ]
        refine wpAnyH_take (i := 27) (v := ?_) rfl (by kernel_rfl) (by kernel_rfl) (by kernel_rfl) (fun _ _ _ h => h) (Or.inl ⟨by rfl, ?_⟩) hHeld ?_
        rotate_left
        · (intro v9 hS9; clear hS9; go_simp; try with_reducible rfl)
        try simp only [Act.put, List.setIfInBounds_toArray, List.set_cons_zero, List.set_cons_succ, List.getElem_toArray, List.getElem_cons_zero, List.getElem_cons_succ]
        refine wpAnyH_take (i := 28) (v := ?_) rfl (by kernel_rfl) (by kernel_rfl) (by kernel_rfl) (fun _ _ _ h => h) (Or.inl ⟨by rfl, ?_⟩) hHeld ?_
        rotate_left
        · (intro v9 hS9; have c0 := (HCL.out v9 hS9).1 6 (by omega); clear hS9; go_simp; try with_reducible rfl)
        try simp only [Act.put, List.setIfInBounds_toArray, List.set_cons_zero, List.set_cons_succ, List.getElem_toArray, List.getElem_cons_zero, List.getElem_cons_succ]
        refine wpAnyH_take (i := 29) (v := ?_) rfl (by kernel_rfl) (by kernel_rfl) (by kernel_rfl) (fun _ _ _ h => h) (Or.inl ⟨by rfl, ?_⟩) hHeld ?_
        rotate_left
        · (intro v9 hS9; clear hS9; go_simp; try with_reducible rfl)
        try simp only [Act.put, List.setIfInBounds_toArray, List.set_cons_zero, List.set_cons_succ, List.getElem_toArray, List.getElem_cons_zero, List.getElem_cons_succ]
        refine wpAnyH_take (i := 30) (v := ?_) rfl (by kernel_rfl) (by kernel_rfl) (by kernel_rfl) (fun _ _ _ h => h) (Or.inl ⟨by rfl, ?_⟩) hHeld ?_
        rotate_left
        · (intro v9 hS9; have c0 := (HCL.out v9 hS9).2.1 6 2 (by omega) (by omega); clear hS9; go_simp; try with_reducible rfl)
        try simp only [Act.put, List.setIfInBounds_toArray, List.set_cons_zero, List.set_cons_succ, List.getElem_toArray, List.getElem_cons_zero, List.getElem_cons_succ]
        refine wpAnyH_take (i := 32) (v := ?_) rfl (by kernel_rfl) (by kernel_rfl) (by kernel_rfl) (fun _ _ _ h => h) (Or.inl ⟨by rfl, ?_⟩) hHeld ?_
        rotate_left
        · (intro v9 hS9; clear hS9; go_simp; try with_reducible rfl)
        try simp only [Act.put, List.setIfInBounds_toArray, List.set_cons_zero, List.set_cons_succ, List.getElem_toArray, List.getElem_cons_zero, List.getElem_cons_succ]
        refine wpAnyH_take (i := 33) (v := ?_) rfl (by kernel_rfl) (by kernel_rfl) (by kernel_rfl) (fun _ _ _ h => h) (Or.inl ⟨by rfl, ?_⟩) hHeld ?_
        rotate_left
        · (intro v9 hS9; clear hS9; go_simp; try with_reducible rfl)
        try simp only [Act.put, List.setIfInBounds_toArray, List.set_cons_zero, List.set_cons_succ, List.getElem_toArray, List.getElem_cons_zero, List.getElem_cons_succ]
        refine wpAnyH_take (i := 34) (v := ?_) rfl (by kernel_rfl) (by kernel_rfl) (by kernel_rfl) (fun _ _ _ h => h) (Or.inl ⟨by rfl, ?_⟩) hHeld ?_
        rotate_left
        · (intro v9 hS9; have c0 := (HCL.out v9 hS9).1 6 (by omega); clear hS9; go_simp; try with_reducible rfl)
        try simp only [Act.put, List.setIfInBounds_toArray, List.set_cons_zero, List.set_cons_succ, List.getElem_toArray, List.getElem_cons_zero, List.getElem_cons_succ]
        refine wpAnyH_take (i := 35) (v := ?_) rfl (by kernel_rfl) (by kernel_rfl) (by kernel_rfl) (fun _ _ _ h => h) (Or.inl ⟨by rfl, ?_⟩) hHeld ?_
        rotate_left
        · (intro v9 hS9; clear hS9; go_simp; try with_reducible rfl)
        try simp only [Act.put, List.setIfInBounds_toArray, List.set_cons_zero, List.set_cons_succ, List.getElem_toArray, List.getElem_cons_zero, List.getElem_cons_succ]
        refine wpAnyH_take (i := 36) (v := ?_) rfl (by kernel_rfl) (by kernel_rfl) (by kernel_rfl) (fun _ _ _ h => h) (Or.inl ⟨by rfl, ?_⟩) hHeld ?_
        rotate_left
        · (intro v9 hS9; have c0 := (HCL.out v9 hS9).2.1 6 3 (by omega) (by omega); clear hS9; go_simp; try with_reducible rfl)
        try simp only [Act.put, List.setIfInBounds_toArray, List.set_cons_zero, List.set_cons_succ, List.getElem_toArray, List.getElem_cons_zero, List.getElem_cons_succ]
        refine wpAnyH_ready (rs := [7, 39]) (by kernel_rfl) (by simp) ?_
        refine AllReadyH.cons rfl (fun K hK => ?_) (AllReadyH.cons rfl (fun K hK => ?_) AllReadyH.nil)
        · go_simp
          go_wp2_with (go_at_call 60; refine (HIN.out _ _ _).mono ?_; rintro e wq ⟨rfl, hwq⟩; have hwq' := hwq.symm; clear hwq; subst hwq')
          refine hK.out _ _ hHeld (fun hNext => ?_)
          clear hK K hHeld
          have hHeld := hNext
          clear hNext
          refine wpAnyH_ready (rs := [13, 39]) (by kernel_rfl) (by simp) ?_
          refine AllReadyH.cons rfl (fun K hK => ?_) (AllReadyH.cons rfl (fun K hK => ?_) AllReadyH.nil)
          · go_simp
            go_wp2_with (go_at_call 60; refine (HIN.out _ _ _).mono ?_; rintro e wq ⟨rfl, hwq⟩; have hwq' := hwq.symm; clear hwq; subst hwq')
            refine hK.out _ _ hHeld (fun hNext => ?_)
            clear hK K hHeld
            have hHeld := hNext
            clear hNext
            refine wpAnyH_ready (rs := [25, 39]) (by kernel_rfl) (by simp) ?_
            refine AllReadyH.cons rfl (fun K hK => ?_) (AllReadyH.cons rfl (fun K hK => ?_) AllReadyH.nil)
            · go_simp
              go_wp2_with (go_at_call 60; refine (HIN.out _ _ _).mono ?_; rintro e wq ⟨rfl, hwq⟩; have hwq' := hwq.symm; clear hwq; subst hwq')
              refine hK.out _ _ hHeld (fun hNext => ?_)
              clear hK K hHeld
              have hHeld := hNext
              clear hNext
              refine wpAnyH_ready (rs := [31, 39]) (by kernel_rfl) (by simp) ?_
              refine AllReadyH.cons rfl (fun K hK => ?_) (AllReadyH.cons rfl (fun K hK => ?_) AllReadyH.nil)
              · go_simp
                go_wp2_with (go_at_call 60; refine (HIN.out _ _ _).mono ?_; rintro e wq ⟨rfl, hwq⟩; have hwq' := hwq.symm; clear hwq; subst hwq')
                refine hK.out _ _ hHeld (fun hNext => ?_)
                clear hK K hHeld
                have hHeld := hNext
                clear hNext
                refine wpAnyH_ready (rs := [37, 39]) (by kernel_rfl) (by simp) ?_
                refine AllReadyH.cons rfl (fun K hK => ?_) (AllReadyH.cons rfl (fun K hK => ?_) AllReadyH.nil)
                · go_simp
                  go_wp2_with (go_at_call 60; refine (HIN.out _ _ _).mono ?_; rintro e wq ⟨rfl, hwq⟩; have hwq' := hwq.symm; clear hwq; subst hwq')
                  refine hK.out _ _ hHeld (fun hNext => ?_)
                  clear hK K hHeld
                  have hHeld := hNext
                  clear hNext
                  refine wpAnyH_take (i := 38) (v := ?_) rfl (by kernel_rfl) (by kernel_rfl) (by kernel_rfl) (fun _ _ _ h => h) (Or.inl ⟨by rfl, ?_⟩) hHeld ?_
                  rotate_left
                  · (intro v9 hS9; clear hS9; go_simp; try with_reducible rfl)
                  try simp only [Act.put, List.setIfInBounds_toArray, List.set_cons_zero, List.set_cons_succ, List.getElem_toArray, List.getElem_cons_zero, List.getElem_cons_succ]
                  refine wpAnyH_ready (rs := [39]) (by kernel_rfl) (by simp) ?_
                  refine AllReadyH.cons rfl (fun K hK => ?_) AllReadyH.nil
                  go_simp
                  have hba : Below w6.heap.size w6 (w6.alloc (.cells #[.slice none 0 0, .int .i64 0, .string ⟨#[]⟩, .int .i64 0, .slice none 0 0, .int .i64 0, .bool false, .int .i64 0, .int .i64 0, .int .i64 0, .slice none 0 0] 30)).drew := ((Below.refl w6.heap.size w6).alloc (Nat.le_refl _) _).drew
                  have hma : Mf (w6.alloc (.cells #[.slice none 0 0, .int .i64 0, .string ⟨#[]⟩, .int .i64 0, .slice none 0 0, .int .i64 0, .bool false, .int .i64 0, .int .i64 0, .int .i64 0, .slice none 0 0] 30)).drew w6.heap.size [.slice none 0 0, .int .i64 0, .string ⟨#[]⟩, .int .i64 0, .slice none 0 0, .int .i64 0, .bool false, .int .i64 0, .int .i64 0, .int .i64 0, .slice none 0 0] := fun i hi => Mf.made w6 #[.slice none 0 0, .int .i64 0, .string ⟨#[]⟩, .int .i64 0, .slice none 0 0, .int .i64 0, .bool false, .int .i64 0, .int .i64 0, .int .i64 0, .slice none 0 0] 30 i hi
                  obtain ⟨qa, hqa⟩ : ∃ q, q = w6.heap.size := ⟨_, rfl⟩
                  obtain ⟨wa, hwa⟩ : ∃ X, X = (w6.alloc (.cells #[.slice none 0 0, .int .i64 0, .string ⟨#[]⟩, .int .i64 0, .slice none 0 0, .int .i64 0, .bool false, .int .i64 0, .int .i64 0, .int .i64 0, .slice none 0 0] 30)).drew := ⟨_, rfl⟩
                  rw [← hwa] at hba hma
                  have HMA : Hid (Mf wa qa [.slice none 0 0, .int .i64 0, .string ⟨#[]⟩, .int .i64 0, .slice none 0 0, .int .i64 0, .bool false, .int .i64 0, .int .i64 0, .int .i64 0, .slice none 0 0]) := by rw [hqa]; exact hma
                  have HBA : Hid (Below w6.heap.size w6 wa) := hba
                  have HQA : Hid (w6.heap.size ≤ qa) := by rw [hqa]; exact Nat.le_refl _
                  rw [← hwa]
                  first | rw [← hqa] | skip
                  clear hwa hba hma hqa
                  refine hK.out _ _ HBA.out (fun hNext => ?_)
                  clear hK K hHeld
                  have hHeld := hNext
                  clear hNext
                  have HFN : Hid _ := fin11 (w := w6) HMA.out HBA.out HQA.out (.slice ra R0.length rc) (.int .i64 N1) (.string T1) (.int .i64 (iv 2 1)) (.slice none 0 0) (.int .i64 (iv 4 1)) (.bool ov) (.int .i64 (iv 6 1)) (.int .i64 (iv 6 2)) (.int .i64 (iv 6 3)) (.slice none 0 0)
                  obtain ⟨d0, d1, d2, d3, d4, d5, d6, d7, d8, d9, d10, z0, z1, z2, z3, z4, z5, z6, z7, z8, z9, z10⟩ := Mf.all HMA.out
                  refine wpAnyH_ready (rs := [40]) (by kernel_rfl) (by simp) ?_
                  refine AllReadyH.cons rfl (fun K hK => ?_) AllReadyH.nil
                  go_simp
                  clear d0 d1 d2 d3 d4 d5 d6 d7 d8 d9 d10 z0 z1 z2 z3 z4 z5 z6 z7 z8 z9 z10
                  obtain ⟨WF, hWF, hMF, hbF, _⟩ := HFN.out
                  rw [← hWF]
                  have HMF : Hid (Mf WF qa [.slice ra R0.length rc, .int .i64 N1, .string T1, .int .i64 (iv 2 1), .slice none 0 0, .int .i64 (iv 4 1), .bool ov, .int .i64 (iv 6 1), .int .i64 (iv 6 2), .int .i64 (iv 6 3), .slice none 0 0]) := hMF
                  have HBF : Hid (Below w6.heap.size w6 WF) := hbF
                  clear hWF hMF hbF HFN
                  refine hK.out _ _ HBF.out (fun hNext => ?_)
                  clear hK K hHeld hNext
                  refine wpAnyH_done (by kernel_rfl) ?_ _
                  go_wp2_with fail
                  go_meet
                  case rel => exact ⟨qa, rfl, HQA.out, HMF.out, HBF.out⟩
                · go_simp
                  have hba : Below w6.heap.size w6 (w6.alloc (.cells #[.slice none 0 0, .int .i64 0, .string ⟨#[]⟩, .int .i64 0, .slice none 0 0, .int .i64 0, .bool false, .int .i64 0, .int .i64 0, .int .i64 0, .slice none 0 0] 30)).drew := ((Below.refl w6.heap.size w6).alloc (Nat.le_refl _) _).drew
                  have hma : Mf (w6.alloc (.cells #[.slice none 0 0, .int .i64 0, .string ⟨#[]⟩, .int .i64 0, .slice none 0 0, .int .i64 0, .bool false, .int .i64 0, .int .i64 0, .int .i64 0, .slice none 0 0] 30)).drew w6.heap.size [.slice none 0 0, .int .i64 0, .string ⟨#[]⟩, .int .i64 0, .slice none 0 0, .int .i64 0, .bool false, .int .i64 0, .int .i64 0, .int .i64 0, .slice none 0 0] := fun i hi => Mf.made w6 #[.slice none 0 0, .int .i64 0, .string ⟨#[]⟩, .int .i64 0, .slice none 0 0, .int .i64 0, .bool false, .int .i64 0, .int .i64 0, .int .i64 0, .slice none 0 0] 30 i hi
                  obtain ⟨qa, hqa⟩ : ∃ q, q = w6.heap.size := ⟨_, rfl⟩
                  obtain ⟨wa, hwa⟩ : ∃ X, X = (w6.alloc (.cells #[.slice none 0 0, .int .i64 0, .string ⟨#[]⟩, .int .i64 0, .slice none 0 0, .int .i64 0, .bool false, .int .i64 0, .int .i64 0, .int .i64 0, .slice none 0 0] 30)).drew := ⟨_, rfl⟩
                  rw [← hwa] at hba hma
                  have HMA : Hid (Mf wa qa [.slice none 0 0, .int .i64 0, .string ⟨#[]⟩, .int .i64 0, .slice none 0 0, .int .i64 0, .bool false, .int .i64 0, .int .i64 0, .int .i64 0, .slice none 0 0]) := by rw [hqa]; exact hma
                  have HBA : Hid (Below w6.heap.size w6 wa) := hba
                  have HQA : Hid (w6.heap.size ≤ qa) := by rw [hqa]; exact Nat.le_refl _
                  rw [← hwa]
                  first | rw [← hqa] | skip
                  clear hwa hba hma hqa
                  refine hK.out _ _ HBA.out (fun hNext => ?_)
                  clear hK K hHeld
                  have hHeld := hNext
                  clear hNext
                  refine wpAnyH_ready (rs := [37]) (by kernel_rfl) (by simp) ?_
                  refine AllReadyH.cons rfl (fun K hK => ?_) AllReadyH.nil
                  go_simp
                  go_wp2_with (go_at_call 60; refine (HIN.out _ _ _).mono ?_; rintro e wq ⟨rfl, hwq⟩; have hwq' := hwq.symm; clear hwq; subst hwq')
                  refine hK.out _ _ hHeld (fun hNext => ?_)
                  clear hK K hHeld
                  have hHeld := hNext
                  clear hNext
                  refine wpAnyH_take (i := 38) (v := ?_) rfl (by kernel_rfl) (by kernel_rfl) (by kernel_rfl) (fun _ _ _ h => h) (Or.inl ⟨by rfl, ?_⟩) hHeld ?_
                  rotate_left
                  · (intro v9 hS9; clear hS9; go_simp; try with_reducible rfl)
                  try simp only [Act.put, List.setIfInBounds_toArray, List.set_cons_zero, List.set_cons_succ, List.getElem_toArray, List.getElem_cons_zero, List.getElem_cons_succ]
                  have HFN : Hid _ := fin11 (w := w6) HMA.out HBA.out HQA.out (.slice ra R0.length rc) (.int .i64 N1) (.string T1) (.int .i64 (iv 2 1)) (.slice none 0 0) (.int .i64 (iv 4 1)) (.bool ov) (.int .i64 (iv 6 1)) (.int .i64 (iv 6 2)) (.int .i64 (iv 6 3)) (.slice none 0 0)
                  obtain ⟨d0, d1, d2, d3, d4, d5, d6, d7, d8, d9, d10, z0, z1, z2, z3, z4, z5, z6, z7, z8, z9, z10⟩ := Mf.all HMA.out
                  refine wpAnyH_ready (rs := [40]) (by kernel_rfl) (by simp) ?_
                  refine AllReadyH.cons rfl (fun K hK => ?_) AllReadyH.nil
                  go_simp
                  clear d0 d1 d2 d3 d4 d5 d6 d7 d8 d9 d10 z0 z1 z2 z3 z4 z5 z6 z7 z8 z9 z10
                  obtain ⟨WF, hWF, hMF, hbF, _⟩ := HFN.out
                  rw [← hWF]
                  have HMF : Hid (Mf WF qa [.slice ra R0.length rc, .int .i64 N1, .string T1, .int .i64 (iv 2 1), .slice none 0 0, .int .i64 (iv 4 1), .bool ov, .int .i64 (iv 6 1), .int .i64 (iv 6 2), .int .i64 (iv 6 3), .slice none 0 0]) := hMF
                  have HBF : Hid (Below w6.heap.size w6 WF) := hbF
                  clear hWF hMF hbF HFN
                  refine hK.out _ _ HBF.out (fun hNext => ?_)
                  clear hK K hHeld hNext
                  refine wpAnyH_done (by kernel_rfl) ?_ _
                  go_wp2_with fail
                  go_meet
                  case rel => exact ⟨qa, rfl, HQA.out, HMF.out, HBF.out⟩
              · go_simp
                have hba : Below w6.heap.size w6 (w6.alloc (.cells #[.slice none 0 0, .int .i64 0, .string ⟨#[]⟩, .int .i64 0, .slice none 0 0, .int .i64 0, .bool false, .int .i64 0, .int .i64 0, .int .i64 0, .slice none 0 0] 30)).drew := ((Below.refl w6.heap.size w6).alloc (Nat.le_refl _) _).drew
                have hma : Mf (w6.alloc (.cells #[.slice none 0 0, .int .i64 0, .string ⟨#[]⟩, .int .i64 0, .slice none 0 0, .int .i64 0, .bool false, .int .i64 0, .int .i64 0, .int .i64 0, .slice none 0 0] 30)).drew w6.heap.size [.slice none 0 0, .int .i64 0, .string ⟨#[]⟩, .int .i64 0, .slice none 0 0, .int .i64 0, .bool false, .int .i64 0, .int .i64 0, .int .i64 0, .slice none 0 0] := fun i hi => Mf.made w6 #[.slice none 0 0, .int .i64 0, .string ⟨#[]⟩, .int .i64 0, .slice none 0 0, .int .i64 0, .bool false, .int .i64 0, .int .i64 0, .int .i64 0, .slice none 0 0] 30 i hi
                obtain ⟨qa, hqa⟩ : ∃ q, q = w6.heap.size := ⟨_, rfl⟩
                obtain ⟨wa, hwa⟩ : ∃ X, X = (w6.alloc (.cells #[.slice none 0 0, .int .i64 0, .string ⟨#[]⟩, .int .i64 0, .slice none 0 0, .int .i64 0, .bool false, .int .i64 0, .int .i64 0, .int .i64 0, .slice none 0 0] 30)).drew := ⟨_, rfl⟩
                rw [← hwa] at hba hma
                have HMA : Hid (Mf wa qa [.slice none 0 0, .int .i64 0, .string ⟨#[]⟩, .int .i64 0, .slice none 0 0, .int .i64 0, .bool false, .int .i64 0, .int .i64 0, .int .i64 0, .slice none 0 0]) := by rw [hqa]; exact hma
                have HBA : Hid (Below w6.heap.size w6 wa) := hba
                have HQA : Hid (w6.heap.size ≤ qa) := by rw [hqa]; exact Nat.le_refl _
                rw [← hwa]
                first | rw [← hqa] | skip
                clear hwa hba hma hqa
                refine hK.out _ _ HBA.out (fun hNext => ?_)
                clear hK K hHeld
                have hHeld := hNext
                clear hNext
                refine wpAnyH_ready (rs := [31]) (by kernel_rfl) (by simp) ?_
                refine AllReadyH.cons rfl (fun K hK => ?_) AllReadyH.nil
                go_simp
                go_wp2_with (go_at_call 60; refine (HIN.out _ _ _).mono ?_; rintro e wq ⟨rfl, hwq⟩; have hwq' := hwq.symm; clear hwq; subst hwq')
                refine hK.out _ _ hHeld (fun hNext => ?_)
                clear hK K hHeld
                have hHeld := hNext
                clear hNext
                refine wpAnyH_ready (rs := [37]) (by kernel_rfl) (by simp) ?_
                refine AllReadyH.cons rfl (fun K hK => ?_) AllReadyH.nil
                go_simp
                go_wp2_with (go_at_call 60; refine (HIN.out _ _ _).mono ?_; rintro e wq ⟨rfl, hwq⟩; have hwq' := hwq.symm; clear hwq; subst hwq')
                refine hK.out _ _ hHeld (fun hNext => ?_)
                clear hK K hHeld
                have hHeld := hNext
                clear hNext
                refine wpAnyH_take (i := 38) (v := ?_) rfl (by kernel_rfl) (by kernel_rfl) (by kernel_rfl) (fun _ _ _ h => h) (Or.inl ⟨by rfl, ?_⟩) hHeld ?_
                rotate_left
                · (intro v9 hS9; clear hS9; go_simp; try with_reducible rfl)
                try simp only [Act.put, List.setIfInBounds_toArray, List.set_cons_zero, List.set_cons_succ, List.getElem_toArray, List.getElem_cons_zero, List.getElem_cons_succ]
                have HFN : Hid _ := fin11 (w := w6) HMA.out HBA.out HQA.out (.slice ra R0.length rc) (.int .i64 N1) (.string T1) (.int .i64 (iv 2 1)) (.slice none 0 0) (.int .i64 (iv 4 1)) (.bool ov) (.int .i64 (iv 6 1)) (.int .i64 (iv 6 2)) (.int .i64 (iv 6 3)) (.slice none 0 0)
                obtain ⟨d0, d1, d2, d3, d4, d5, d6, d7, d8, d9, d10, z0, z1, z2, z3, z4, z5, z6, z7, z8, z9, z10⟩ := Mf.all HMA.out
                refine wpAnyH_ready (rs := [40]) (by kernel_rfl) (by simp) ?_
                refine AllReadyH.cons rfl (fun K hK => ?_) AllReadyH.nil
                go_simp
                clear d0 d1 d2 d3 d4 d5 d6 d7 d8 d9 d10 z0 z1 z2 z3 z4 z5 z6 z7 z8 z9 z10
                obtain ⟨WF, hWF, hMF, hbF, _⟩ := HFN.out
                rw [← hWF]
                have HMF : Hid (Mf WF qa [.slice ra R0.length rc, .int .i64 N1, .string T1, .int .i64 (iv 2 1), .slice none 0 0, .int .i64 (iv 4 1), .bool ov, .int .i64 (iv 6 1), .int .i64 (iv 6 2), .int .i64 (iv 6 3), .slice none 0 0]) := hMF
                have HBF : Hid (Below w6.heap.size w6 WF) := hbF
                clear hWF hMF hbF HFN
                refine hK.out _ _ HBF.out (fun hNext => ?_)
                clear hK K hHeld hNext
                refine wpAnyH_done (by kernel_rfl) ?_ _
                go_wp2_with fail
                go_meet
                case rel => exact ⟨qa, rfl, HQA.out, HMF.out, HBF.out⟩
            · go_simp
              have hba : Below w6.heap.size w6 (w6.alloc (.cells #[.slice none 0 0, .int .i64 0, .string ⟨#[]⟩, .int .i64 0, .slice none 0 0, .int .i64 0, .bool false, .int .i64 0, .int .i64 0, .int .i64 0, .slice none 0 0] 30)).drew := ((Below.refl w6.heap.size w6).alloc (Nat.le_refl _) _).drew
              have hma : Mf (w6.alloc (.cells #[.slice none 0 0, .int .i64 0, .string ⟨#[]⟩, .int .i64 0, .slice none 0 0, .int .i64 0, .bool false, .int .i64 0, .int .i64 0, .int .i64 0, .slice none 0 0] 30)).drew w6.heap.size [.slice none 0 0, .int .i64 0, .string ⟨#[]⟩, .int .i64 0, .slice none 0 0, .int .i64 0, .bool false, .int .i64 0, .int .i64 0, .int .i64 0, .slice none 0 0] := fun i hi => Mf.made w6 #[.slice none 0 0, .int .i64 0, .string ⟨#[]⟩, .int .i64 0, .slice none 0 0, .int .i64 0, .bool false, .int .i64 0, .int .i64 0, .int .i64 0, .slice none 0 0] 30 i hi
              obtain ⟨qa, hqa⟩ : ∃ q, q = w6.heap.size := ⟨_, rfl⟩
              obtain ⟨wa, hwa⟩ : ∃ X, X = (w6.alloc (.cells #[.slice none 0 0, .int .i64 0, .string ⟨#[]⟩, .int .i64 0, .slice none 0 0, .int .i64 0, .bool false, .int .i64 0, .int .i64 0, .int .i64 0, .slice none 0 0] 30)).drew := ⟨_, rfl⟩
              rw [← hwa] at hba hma
              have HMA : Hid (Mf wa qa [.slice none 0 0, .int .i64 0, .string ⟨#[]⟩, .int .i64 0, .slice none 0 0, .int .i64 0, .bool false, .int .i64 0, .int .i64 0, .int .i64 0, .slice none 0 0]) := by rw [hqa]; exact hma
              have HBA : Hid (Below w6.heap.size w6 wa) := hba
              have HQA : Hid (w6.heap.size ≤ qa) := by rw [hqa]; exact Nat.le_refl _
              rw [← hwa]
              first | rw [← hqa] | skip
              clear hwa hba hma hqa
              refine hK.out _ _ HBA.out (fun hNext => ?_)
              clear hK K hHeld
              have hHeld := hNext
              clear hNext
              refine wpAnyH_ready (rs := [25]) (by kernel_rfl) (by simp) ?_
              refine AllReadyH.cons rfl (fun K hK => ?_) AllReadyH.nil
              go_simp
              go_wp2_with (go_at_call 60; refine (HIN.out _ _ _).mono ?_; rintro e wq ⟨rfl, hwq⟩; have hwq' := hwq.symm; clear hwq; subst hwq')
              refine hK.out _ _ hHeld (fun hNext => ?_)
              clear hK K hHeld
              have hHeld := hNext
              clear hNext
              refine wpAnyH_ready (rs := [31]) (by kernel_rfl) (by simp) ?_
              refine AllReadyH.cons rfl (fun K hK => ?_) AllReadyH.nil
              go_simp
              go_wp2_with (go_at_call 60; refine (HIN.out _ _ _).mono ?_; rintro e wq ⟨rfl, hwq⟩; have hwq' := hwq.symm; clear hwq; subst hwq')
              refine hK.out _ _ hHeld (fun hNext => ?_)
              clear hK K hHeld
              have hHeld := hNext
              clear hNext
              refine wpAnyH_ready (rs := [37]) (by kernel_rfl) (by simp) ?_
              refine AllReadyH.cons rfl (fun K hK => ?_) AllReadyH.nil
              go_simp
              go_wp2_with (go_at_call 60; refine (HIN.out _ _ _).mono ?_; rintro e wq ⟨rfl, hwq⟩; have hwq' := hwq.symm; clear hwq; subst hwq')
              refine hK.out _ _ hHeld (fun hNext => ?_)
              clear hK K hHeld
              have hHeld := hNext
              clear hNext
              refine wpAnyH_take (i := 38) (v := ?_) rfl (by kernel_rfl) (by kernel_rfl) (by kernel_rfl) (fun _ _ _ h => h) (Or.inl ⟨by rfl, ?_⟩) hHeld ?_
              rotate_left
              · (intro v9 hS9; clear hS9; go_simp; try with_reducible rfl)
              try simp only [Act.put, List.setIfInBounds_toArray, List.set_cons_zero, List.set_cons_succ, List.getElem_toArray, List.getElem_cons_zero, List.getElem_cons_succ]
              have HFN : Hid _ := fin11 (w := w6) HMA.out HBA.out HQA.out (.slice ra R0.length rc) (.int .i64 N1) (.string T1) (.int .i64 (iv 2 1)) (.slice none 0 0) (.int .i64 (iv 4 1)) (.bool ov) (.int .i64 (iv 6 1)) (.int .i64 (iv 6 2)) (.int .i64 (iv 6 3)) (.slice none 0 0)
              obtain ⟨d0, d1, d2, d3, d4, d5, d6, d7, d8, d9, d10, z0, z1, z2, z3, z4, z5, z6, z7, z8, z9, z10⟩ := Mf.all HMA.out
              refine wpAnyH_ready (rs := [40]) (by kernel_rfl) (by simp) ?_
              refine AllReadyH.cons rfl (fun K hK => ?_) AllReadyH.nil
              go_simp
              clear d0 d1 d2 d3 d4 d5 d6 d7 d8 d9 d10 z0 z1 z2 z3 z4 z5 z6 z7 z8 z9 z10
              obtain ⟨WF, hWF, hMF, hbF, _⟩ := HFN.out
              rw [← hWF]
              have HMF : Hid (Mf WF qa [.slice ra R0.length rc, .int .i64 N1, .string T1, .int .i64 (iv 2 1), .slice none 0 0, .int .i64 (iv 4 1), .bool ov, .int .i64 (iv 6 1), .int .i64 (iv 6 2), .int .i64 (iv 6 3), .slice none 0 0]) := hMF
              have HBF : Hid (Below w6.heap.size w6 WF) := hbF
              clear hWF hMF hbF HFN
              refine hK.out _ _ HBF.out (fun hNext => ?_)
              clear hK K hHeld hNext
              refine wpAnyH_done (by kernel_rfl) ?_ _
              go_wp2_with fail
              go_meet
              case rel => exact ⟨qa, rfl, HQA.out, HMF.out, HBF.out⟩
          · go_simp
            have hba : Below w6.heap.size w6 (w6.alloc (.cells #[.slice none 0 0, .int .i64 0, .string ⟨#[]⟩, .int .i64 0, .slice none 0 0, .int .i64 0, .bool false, .int .i64 0, .int .i64 0, .int .i64 0, .slice none 0 0] 30)).drew := ((Below.refl w6.heap.size w6).alloc (Nat.le_refl _) _).drew
            have hma : Mf (w6.alloc (.cells #[.slice none 0 0, .int .i64 0, .string ⟨#[]⟩, .int .i64 0, .slice none 0 0, .int .i64 0, .bool false, .int .i64 0, .int .i64 0, .int .i64 0, .slice none 0 0] 30)).drew w6.heap.size [.slice none 0 0, .int .i64 0, .string ⟨#[]⟩, .int .i64 0, .slice none 0 0, .int .i64 0, .bool false, .int .i64 0, .int .i64 0, .int .i64 0, .slice none 0 0] := fun i hi => Mf.made w6 #[.slice none 0 0, .int .i64 0, .string ⟨#[]⟩, .int .i64 0, .slice none 0 0, .int .i64 0, .bool false, .int .i64 0, .int .i64 0, .int .i64 0, .slice none 0 0] 30 i hi
            obtain ⟨qa, hqa⟩ : ∃ q, q = w6.heap.size := ⟨_, rfl⟩
            obtain ⟨wa, hwa⟩ : ∃ X, X = (w6.alloc (.cells #[.slice none 0 0, .int .i64 0, .string ⟨#[]⟩, .int .i64 0, .slice none 0 0, .int .i64 0, .bool false, .int .i64 0, .int .i64 0, .int .i64 0, .slice none 0 0] 30)).drew := ⟨_, rfl⟩
            rw [← hwa] at hba hma
            have HMA : Hid (Mf wa qa [.slice none 0 0, .int .i64 0, .string ⟨#[]⟩, .int .i64 0, .slice none 0 0, .int .i64 0, .bool false, .int .i64 0, .int .i64 0, .int .i64 0, .slice none 0 0]) := by rw [hqa]; exact hma
            have HBA : Hid (Below w6.heap.size w6 wa) := hba
            have HQA : Hid (w6.heap.size ≤ qa) := by rw [hqa]; exact Nat.le_refl _
            rw [← hwa]
            first | rw [← hqa] | skip
            clear hwa hba hma hqa
            refine hK.out _ _ HBA.out (fun hNext => ?_)
            clear hK K hHeld
            have hHeld := hNext
            clear hNext
            refine wpAnyH_ready (rs := [13]) (by kernel_rfl) (by simp) ?_
            refine AllReadyH.cons rfl (fun K hK => ?_) AllReadyH.nil
            go_simp
            go_wp2_with (go_at_call 60; refine (HIN.out _ _ _).mono ?_; rintro e wq ⟨rfl, hwq⟩; have hwq' := hwq.symm; clear hwq; subst hwq')
            refine hK.out _ _ hHeld (fun hNext => ?_)
            clear hK K hHeld
            have hHeld := hNext
            clear hNext
            refine wpAnyH_ready (rs := [25]) (by kernel_rfl) (by simp) ?_
            refine AllReadyH.cons rfl (fun K hK => ?_) AllReadyH.nil
            go_simp
            go_wp2_with (go_at_call 60; refine (HIN.out _ _ _).mono ?_; rintro e wq ⟨rfl, hwq⟩; have hwq' := hwq.symm; clear hwq; subst hwq')
            refine hK.out _ _ hHeld (fun hNext => ?_)
            clear hK K hHeld
            have hHeld := hNext
            clear hNext
            refine wpAnyH_ready (rs := [31]) (by kernel_rfl) (by simp) ?_
            refine AllReadyH.cons rfl (fun K hK => ?_) AllReadyH.nil
            go_simp
            go_wp2_with (go_at_call 60; refine (HIN.out _ _ _).mono ?_; rintro e wq ⟨rfl, hwq⟩; have hwq' := hwq.symm; clear hwq; subst hwq')
            refine hK.out _ _ hHeld (fun hNext => ?_)
            clear hK K hHeld
            have hHeld := hNext
            clear hNext
            refine wpAnyH_ready (rs := [37]) (by kernel_rfl) (by simp) ?_
            refine AllReadyH.cons rfl (fun K hK => ?_) AllReadyH.nil
            go_simp
            go_wp2_with (go_at_call 60; refine (HIN.out _ _ _).mono ?_; rintro e wq ⟨rfl, hwq⟩; have hwq' := hwq.symm; clear hwq; subst hwq')
            refine hK.out _ _ hHeld (fun hNext => ?_)
            clear hK K hHeld
            have hHeld := hNext
            clear hNext
            refine wpAnyH_take (i := 38) (v := ?_) rfl (by kernel_rfl) (by kernel_rfl) (by kernel_rfl) (fun _ _ _ h => h) (Or.inl ⟨by rfl, ?_⟩) hHeld ?_
            rotate_left
            · (intro v9 hS9; clear hS9; go_simp; try with_reducible rfl)
            try simp only [Act.put, List.setIfInBounds_toArray, List.set_cons_zero, List.set_cons_succ, List.getElem_toArray, List.getElem_cons_zero, List.getElem_cons_succ]
            have HFN : Hid _ := fin11 (w := w6) HMA.out HBA.out HQA.out (.slice ra R0.length rc) (.int .i64 N1) (.string T1) (.int .i64 (iv 2 1)) (.slice none 0 0) (.int .i64 (iv 4 1)) (.bool ov) (.int .i64 (iv 6 1)) (.int .i64 (iv 6 2)) (.int .i64 (iv 6 3)) (.slice none 0 0)
            obtain ⟨d0, d1, d2, d3, d4, d5, d6, d7, d8, d9, d10, z0, z1, z2, z3, z4, z5, z6, z7, z8, z9, z10⟩ := Mf.all HMA.out
            refine wpAnyH_ready (rs := [40]) (by kernel_rfl) (by simp) ?_
            refine AllReadyH.cons rfl (fun K hK => ?_) AllReadyH.nil
            go_simp
            clear d0 d1 d2 d3 d4 d5 d6 d7 d8 d9 d10 z0 z1 z2 z3 z4 z5 z6 z7 z8 z9 z10
            obtain ⟨WF, hWF, hMF, hbF, _⟩ := HFN.out
            rw [← hWF]
            have HMF : Hid (Mf WF qa [.slice ra R0.length rc, .int .i64 N1, .string T1, .int .i64 (iv 2 1), .slice none 0 0, .int .i64 (iv 4 1), .bool ov, .int .i64 (iv 6 1), .int .i64 (iv 6 2), .int .i64 (iv 6 3), .slice none 0 0]) := hMF
            have HBF : Hid (Below w6.heap.size w6 WF) := hbF
            clear hWF hMF hbF HFN
            refine hK.out _ _ HBF.out (fun hNext => ?_)
            clear hK K hHeld hNext
            refine wpAnyH_done (by kernel_rfl) ?_ _
            go_wp2_with fail
            go_meet
            case rel => exact ⟨qa, rfl, HQA.out, HMF.out, HBF.out⟩
        · go_simp
          have hba : Below w6.heap.size w6 (w6.alloc (.cells #[.slice none 0 0, .int .i64 0, .string ⟨#[]⟩, .int .i64 0, .slice none 0 0, .int .i64 0, .bool false, .int .i64 0, .int .i64 0, .int .i64 0, .slice none 0 0] 30)).drew := ((Below.refl w6.heap.size w6).alloc (Nat.le_refl _) _).drew
          have hma : Mf (w6.alloc (.cells #[.slice none 0 0, .int .i64 0, .string ⟨#[]⟩, .int .i64 0, .slice none 0 0, .int .i64 0, .bool false, .int .i64 0, .int .i64 0, .int .i64 0, .slice none 0 0] 30)).drew w6.heap.size [.slice none 0 0, .int .i64 0, .string ⟨#[]⟩, .int .i64 0, .slice none 0 0, .int .i64 0, .bool false, .int .i64 0, .int .i64 0, .int .i64 0, .slice none 0 0] := fun i hi => Mf.made w6 #[.slice none 0 0, .int .i64 0, .string ⟨#[]⟩, .int .i64 0, .slice none 0 0, .int .i64 0, .bool false, .int .i64 0, .int .i64 0, .int .i64 0, .slice none 0 0] 30 i hi
          obtain ⟨qa, hqa⟩ : ∃ q, q = w6.heap.size := ⟨_, rfl⟩
          obtain ⟨wa, hwa⟩ : ∃ X, X = (w6.alloc (.cells #[.slice none 0 0, .int .i64 0, .string ⟨#[]⟩, .int .i64 0, .slice none 0 0, .int .i64 0, .bool false, .int .i64 0, .int .i64 0, .int .i64 0, .slice none 0 0] 30)).drew := ⟨_, rfl⟩
          rw [← hwa] at hba hma
          have HMA : Hid (Mf wa qa [.slice none 0 0, .int .i64 0, .string ⟨#[]⟩, .int .i64 0, .slice none 0 0, .int .i64 0, .bool false, .int .i64 0, .int .i64 0, .int .i64 0, .slice none 0 0]) := by rw [hqa]; exact hma
          have HBA : Hid (Below w6.heap.size w6 wa) := hba
          have HQA : Hid (w6.heap.size ≤ qa) := by rw [hqa]; exact Nat.le_refl _
          rw [← hwa]
          first | rw [← hqa] | skip
          clear hwa hba hma hqa
          refine hK.out _ _ HBA.out (fun hNext => ?_)
          clear hK K hHeld
          have hHeld := hNext
          clear hNext
          refine wpAnyH_ready (rs := [7]) (by kernel_rfl) (by simp) ?_
          refine AllReadyH.cons rfl (fun K hK => ?_) AllReadyH.nil
          go_simp
          go_wp2_with (go_at_call 60; refine (HIN.out _ _ _).mono ?_; rintro e wq ⟨rfl, hwq⟩; have hwq' := hwq.symm; clear hwq; subst hwq')
          refine hK.out _ _ hHeld (fun hNext => ?_)
          clear hK K hHeld
          have hHeld := hNext
          clear hNext
          refine wpAnyH_ready (rs := [13]) (by kernel_rfl) (by simp) ?_
          refine AllReadyH.cons rfl (fun K hK => ?_) AllReadyH.nil
          go_simp
          go_wp2_with (go_at_call 60; refine (HIN.out _ _ _).mono ?_; rintro e wq ⟨rfl, hwq⟩; have hwq' := hwq.symm; clear hwq; subst hwq')
          refine hK.out _ _ hHeld (fun hNext => ?_)
          clear hK K hHeld
          have hHeld := hNext
          clear hNext
          refine wpAnyH_ready (rs := [25]) (by kernel_rfl) (by simp) ?_
          refine AllReadyH.cons rfl (fun K hK => ?_) AllReadyH.nil
          go_simp
          go_wp2_with (go_at_call 60; refine (HIN.out _ _ _).mono ?_; rintro e wq ⟨rfl, hwq⟩; have hwq' := hwq.symm; clear hwq; subst hwq')
          refine hK.out _ _ hHeld (fun hNext => ?_)
          clear hK K hHeld
          have hHeld := hNext
          clear hNext
          refine wpAnyH_ready (rs := [31]) (by kernel_rfl) (by simp) ?_
          refine AllReadyH.cons rfl (fun K hK => ?_) AllReadyH.nil
          go_simp
          go_wp2_with (go_at_call 60; refine (HIN.out _ _ _).mono ?_; rintro e wq ⟨rfl, hwq⟩; have hwq' := hwq.symm; clear hwq; subst hwq')
          refine hK.out _ _ hHeld (fun hNext => ?_)
          clear hK K hHeld
          have hHeld := hNext
          clear hNext
          refine wpAnyH_ready (rs := [37]) (by kernel_rfl) (by simp) ?_
          refine AllReadyH.cons rfl (fun K hK => ?_) AllReadyH.nil
          go_simp
          go_wp2_with (go_at_call 60; refine (HIN.out _ _ _).mono ?_; rintro e wq ⟨rfl, hwq⟩; have hwq' := hwq.symm; clear hwq; subst hwq')
          refine hK.out _ _ hHeld (fun hNext => ?_)
          clear hK K hHeld
          have hHeld := hNext
          clear hNext
          refine wpAnyH_take (i := 38) (v := ?_) rfl (by kernel_rfl) (by kernel_rfl) (by kernel_rfl) (fun _ _ _ h => h) (Or.inl ⟨by rfl, ?_⟩) hHeld ?_
          rotate_left
          · (intro v9 hS9; clear hS9; go_simp; try with_reducible rfl)
          try simp only [Act.put, List.setIfInBounds_toArray, List.set_cons_zero, List.set_cons_succ, List.getElem_toArray, List.getElem_cons_zero, List.getElem_cons_succ]
          have HFN : Hid _ := fin11 (w := w6) HMA.out HBA.out HQA.out (.slice ra R0.length rc) (.int .i64 N1) (.string T1) (.int .i64 (iv 2 1)) (.slice none 0 0) (.int .i64 (iv 4 1)) (.bool ov) (.int .i64 (iv 6 1)) (.int .i64 (iv 6 2)) (.int .i64 (iv 6 3)) (.slice none 0 0)
          obtain ⟨d0, d1, d2, d3, d4, d5, d6, d7, d8, d9, d10, z0, z1, z2, z3, z4, z5, z6, z7, z8, z9, z10⟩ := Mf.all HMA.out
          refine wpAnyH_ready (rs := [40]) (by kernel_rfl) (by simp) ?_
          refine AllReadyH.cons rfl (fun K hK => ?_) AllReadyH.nil
          go_simp
          clear d0 d1 d2 d3 d4 d5 d6 d7 d8 d9 d10 z0 z1 z2 z3 z4 z5 z6 z7 z8 z9 z10
          obtain ⟨WF, hWF, hMF, hbF, _⟩ := HFN.out
          rw [← hWF]
          have HMF : Hid (Mf WF qa [.slice ra R0.length rc, .int .i64 N1, .string T1, .int .i64 (iv 2 1), .slice none 0 0, .int .i64 (iv 4 1), .bool ov, .int .i64 (iv 6 1), .int .i64 (iv 6 2), .int .i64 (iv 6 3), .slice none 0 0]) := hMF
          have HBF : Hid (Below w6.heap.size w6 WF) := hbF
          clear hWF hMF hbF HFN
          refine hK.out _ _ HBF.out (fun hNext => ?_)
          clear hK K hHeld hNext
          refine wpAnyH_done (by kernel_rfl) ?_ _
          go_wp2_with fail
          go_meet
          case rel => exact ⟨qa, rfl, HQA.out, HMF.out, HBF.out⟩
      case rest =>
        obtain ⟨q, rfl, hq, hmf, hbc⟩ := hcut
        generalize wc = w7 at *
        have HB7 : Hid (Below w.heap.size w w7) := HB6.out.trans (hbc.mono HB6.out.size)
        have HBL7 : Hid (Below wr.heap.size wr w7) := HBL6.out.trans (hbc.mono HBL6.out.size)
        have HR7 : Hid (Mf w7 w.heap.size [.slice none 0 0, .int .i64 0, .string ⟨#[]⟩, .int .i64 0, .slice none 0 0, .int .i64 0, .bool false, .int .i64 0, .int .i64 0, .int .i64 0, .slice none 0 0]) := HR6.out.below hbc
        have HZ7 : Hid (Mf w7 z [.slice none 0 0, .int .i64 0, .string ⟨#[]⟩, .int .i64 0, .slice none 0 0, .int .i64 0, .bool false, .int .i64 0, .int .i64 0, .int .i64 0, .slice none 0 0]) := HZ6.out.below hbc
        have HRL7 : Hid (BoolsIn w7 wr.heap.size w4.heap.size ra R0) := HRL6.out.below hbc
        have HM7 : Hid (Mf w7 q [.slice ra R0.length rc, .int .i64 N1, .string T1, .int .i64 (iv 2 1), .slice none 0 0, .int .i64 (iv 4 1), .bool ov, .int .i64 (iv 6 1), .int .i64 (iv 6 2), .int .i64 (iv 6 3), .slice none 0 0]) := hmf
        have HQ7 : Hid (w6.heap.size ≤ q) := hq
        have HW46 : Hid (wr.heap.size ≤ q) := Nat.le_trans HBL6.out.size hq
        have HWR : Hid (w.heap.size < wr.heap.size ∧ z < wr.heap.size) := ⟨by have := HX0.out; have := HB1.out.size; have := HBR.out.size; have := HGT.out.1; have := HGQ.out; omega, by have := HZW.out; have := HX0.out; have := HGT.out.1; have := HGQ.out; omega⟩
        have k3z : (3 : Int) < (k : Int) := by omega
        have l3z : (1 : Int) < (ls 3 : Int) := by have := (HLS.out 3 (by omega)).1; omega
        have a3 := (HGR.out w7 HBL7.out).1 3 (by omega)
        have b3 := (HGR.out w7 HBL7.out).2 3 1 (by omega) (by omega)
        clear hq hmf hbc HB6 HR6 HZ6 HRL6 HBL6 HT6 k0z k1z k2z k4z k5z k6z l0z l1z l2z l4z l5z l6z l61 l62
        go_upto_block 2 with fail
        clear a3 b3 k3z l3z
        obtain ⟨V, hV⟩ : ∃ V, V = ws 3 1 := ⟨_, rfl⟩
        have hVz : V.size ≤ 1048576 := by rw [hV]; exact (HWZ.out 3 1).1
        have HVT : Hid (tl V = wat WW 3 1) := by rw [hV]; exact (HWZ.out 3 1).2
        rw [← hV]
        clear hV
        obtain ⟨VL, hVL⟩ : ∃ f : Nat → List Int, f = fun j => ((tl V).take j).map Wp3.un := ⟨_, rfl⟩
        have HVL : Hid (VL = fun j => ((tl V).take j).map Wp3.un) := hVL
        have HVN : Hid (∀ j, j ≤ V.size → (VL j).length = j) := fun j hj => by rw [hVL]; simp [tl_length]; omega
        have HV0 : Hid (VL 0 = []) := by rw [hVL]; rfl
        clear hVL
        obtain ⟨cc, hcc⟩ : ∃ b, (V.toList == [45]) = b := ⟨_, rfl⟩
        have HCC : Hid (cc = true → tl V = [45]) := fun h => by
          rw [h, ByteArray.toList_eq] at hcc
          exact beq_iff_eq.1 hcc
        have HCD : Hid (cc = false → tl V ≠ [45]) := fun h e => by
          rw [h] at hcc
          have := Ss1.eql_true (S := V) (l := [45]) e
          rw [this] at hcc; cases hcc
        have HQL : Hid (q < w7.heap.size) := HM7.out.lt (by simp)
        have HGK : Hid (∀ W, Kept (fun b => b = q) w7 W → (∀ i, i < k → W.cell? ⟨gw, i, none⟩ = some (.slice (some ⟨gr i, 0, none⟩) (ls i) (cr i))) ∧ (∀ i j, i < k → j < ls i → W.cell? ⟨gr i, j, none⟩ = some (.string (ws i j))) ∧ Mf W w.heap.size [.slice none 0 0, .int .i64 0, .string ⟨#[]⟩, .int .i64 0, .slice none 0 0, .int .i64 0, .bool false, .int .i64 0, .int .i64 0, .int .i64 0, .slice none 0 0] ∧ Mf W z [.slice none 0 0, .int .i64 0, .string ⟨#[]⟩, .int .i64 0, .slice none 0 0, .int .i64 0, .bool false, .int .i64 0, .int .i64 0, .int .i64 0, .slice none 0 0] ∧ BoolsIn W wr.heap.size w4.heap.size ra R0 ∧ Below w.heap.size w W) := fun W hW => by
          have hq := HQ7.out
          have h0 := HU46.out
          have hb : Below wr.heap.size wr W := HBL7.out.trans (hW.below (fun b hb => by have := HW46.out; omega) HBL7.out.size)
          have h1 := HGR.out W hb
          refine ⟨h1.1, h1.2, HR7.out.kept hW (by have := HW46.out; have := HWR.out; omega), HZ7.out.kept hW (by have := HW46.out; have := HWR.out; omega), (HRL7.out.kept hW (fun b h1 h2 h3 => by omega)), HB7.out.trans (hW.below (fun b hb => by have := HW46.out; have := HWR.out; omega) HB7.out.size)⟩
        clear HR7 HZ7 HRL7 HBL7 HGR HB7
        go_cut [15] from 143 to 162 (fun s15 wc => ∃ (va : Option Addr) (vc : Nat), Mf wc q [.slice ra R0.length rc, .int .i64 N1, .string T1, .int .i64 (iv 2 1), .slice va (rvL (wat WW 3 1)).length vc, .int .i64 (iv 4 1), .bool ov, .int .i64 (iv 6 1), .int .i64 (iv 6 2), .int .i64 (iv 6 3), .slice none 0 0] ∧ Ows wc w7.heap.size (.slice va (rvL (wat WW 3 1)).length vc) (rvL (wat WW 3 1)) ∧ Kept (fun b => b = q) w7 wc)
        case first =>
          go_wp2
          go_loopw [15] (fun i wx => ∃ (j : Nat) (va : Option Addr) (vc : Nat), j ≤ V.size ∧ (cc = true → j = 0) ∧ i = .int .i64 j ∧ Mf wx q [.slice ra R0.length rc, .int .i64 N1, .string T1, .int .i64 (iv 2 1), .slice va (VL j).length vc, .int .i64 (iv 4 1), .bool ov, .int .i64 (iv 6 1), .int .i64 (iv 6 2), .int .i64 (iv 6 3), .slice none 0 0] ∧ Ows wx w7.heap.size (.slice va (VL j).length vc) (VL j) ∧ Kept (fun b => b = q) w7 wx) (fun i _ => V.size - (intOf i).toNat)
          case atStart => exact ⟨0, none, 0, Nat.zero_le _, fun _ => rfl, rfl, by rw [HV0.out]; exact HM7.out, by rw [HV0.out]; exact ⟨rfl, .inl ⟨rfl, rfl⟩⟩, Kept.refl _ _⟩
          case round =>
            obtain ⟨j, va, vc, hj, hj0, rfl, hmf, how, hkp⟩ := hrel
            generalize wr = wx at *
            have HMX : Hid (Mf wx q [.slice ra R0.length rc, .int .i64 N1, .string T1, .int .i64 (iv 2 1), .slice va (VL j).length vc, .int .i64 (iv 4 1), .bool ov, .int .i64 (iv 6 1), .int .i64 (iv 6 2), .int .i64 (iv 6 3), .slice none 0 0]) := hmf
            have HOX : Hid (Ows wx w7.heap.size (.slice va (VL j).length vc) (VL j)) := how
            have HKX : Hid (Kept (fun b => b = q) w7 wx) := hkp
            have HJ0 : Hid (cc = true → j = 0) := hj0
            clear hmf how hkp hj0
            by_cases hgo : cc = false ∧ j < V.size
            · obtain ⟨hcf, hjl⟩ := hgo
              subst hcf
              have hjz : (j : Int) < (V.size : Int) := by omega
              have hbt := V[j].toNat_lt
              have hw1 : IntKind.i64.wrap (V[j].toNat : Int) = (V[j].toNat : Int) := by rw [IntKind.wrap_i64]; omega
              have hw2 : IntKind.i64.wrap ((V[j].toNat : Int) - 48) = (V[j].toNat : Int) - 48 := by rw [IntKind.wrap_i64]; omega
              have HNX : Hid (VL (j + 1) = VL j ++ [(V[j].toNat : Int) - 48]) := by
                show _ = _
                rw [HVL.out]
                show ((tl V).take (j + 1)).map Wp3.un = ((tl V).take j).map Wp3.un ++ [_]
                rw [List.take_succ_eq_append_getElem (by rw [tl_length]; exact hjl), List.map_append]
                rfl
              obtain ⟨v, hv⟩ : ∃ v, v = Value.slice va (VL j).length vc := ⟨_, rfl⟩
              rw [← hv] at HMX HOX
              have HNP : Hid (∀ i, v.ownBlock = some i → w7.heap.size ≤ i) := fun i hi => (HOX.out.lt i hi).1
              have HOA : Hid (∀ o, Ows (wx.alloc o).drew w7.heap.size v (VL j)) := fun o => HOX.out.kept (S := fun _ => False) ((Kept.refl _ _).alloc o).drew (fun _ _ h => h)
              have HBA : Hid (∀ o : Obj, w7.heap.size ≤ (wx.alloc o).drew.heap.size) := fun o => Nat.le_trans HKX.out.size ((Kept.refl (fun _ => False) wx).alloc o).drew.size
              have HLA : Hid ((VL j).length ≤ 1048576) := by show _ ≤ _; rw [HVN.out j hj]; omega
              have HMA : Hid (∀ o, Mf (wx.alloc o).drew q [.slice ra R0.length rc, .int .i64 N1, .string T1, .int .i64 (iv 2 1), v, .int .i64 (iv 4 1), .bool ov, .int .i64 (iv 6 1), .int .i64 (iv 6 2), .int .i64 (iv 6 3), .slice none 0 0]) := fun o i hi => (HMX.out.alloc o) i hi
              have HKA : Hid (∀ o, Kept (fun b => b = q) w7 (wx.alloc o).drew) := fun o => (HKX.out.alloc o).drew
              clear hv
              go_upto_region 22 with fail
              obtain ⟨d0, d1, d2, d3, d4, d5, d6, d7, d8, d9, d10, z0, z1, z2, z3, z4, z5, z6, z7, z8, z9, z10⟩ := Mf.all HMX.out
              clear d0 d1 d2 d3 d5 d6 d7 d8 d9 d10 z0 z1 z2 z3 z5 z6 z7 z8 z9 z10
              have hd := lt_of_cell d4
              go_region_law ((refine Wp6.step_int _ (by rfl) _ _ (by rfl) w7.heap.size v (VL j) ((V[j].toNat : Int) - 48) (by rfl) _ (by rfl) (by simp) (HOA.out _) (HBA.out _) HLA.out ?_; intro g9 cp9 w9 hO9 hK9 hg9; have HO9 : Hid (Ows w9 w7.heap.size (.slice (some ⟨g9, 0, none⟩) ((VL j).length + 1) cp9) (VL j ++ [(V[j].toNat : Int) - 48])) := hO9; have HM9 : Hid (Mf w9 q [.slice ra R0.length rc, .int .i64 N1, .string T1, .int .i64 (iv 2 1), v, .int .i64 (iv 4 1), .bool ov, .int .i64 (iv 6 1), .int .i64 (iv 6 2), .int .i64 (iv 6 3), .slice none 0 0]) := (HMA.out _).kept hK9 (fun e => by have := HNP.out _ e; have := HQL.out; omega); have HK9 : Hid (Kept (fun b => b = q) w7 w9) := past (HKA.out _) hK9 (fun b hb => .inr (HNP.out b hb)); obtain ⟨x0, x1, x2, x3, x4, x5, x6, x7, x8, x9, x10, y0, y1, y2, y3, y4, y5, y6, y7, y8, y9, y10⟩ := Mf.all HM9.out; clear x0 x1 x2 x3 x5 x6 x7 x8 x9 x10 y0 y1 y2 y3 y5 y6 y7 y8 y9 y10 hO9 hK9 hg9; have hb9l := lt_of_cell x4))
              all_goals
                have hM10 := HM9.out.set 4 (.slice (some ⟨g9, 0, none⟩) ((VL j).length + 1) cp9)
                have hk10 : Kept (fun b => b = q) w9 (w9.setCell ⟨q, 4, none⟩ (.slice (some ⟨g9, 0, none⟩) ((VL j).length + 1) cp9)) := (Kept.refl (fun b => b = q) w9).setCell (p := ⟨q, 4, none⟩) rfl _
                have HM10 : Hid (Mf (w9.setCell ⟨q, 4, none⟩ (.slice (some ⟨g9, 0, none⟩) ((VL j).length + 1) cp9)) q [.slice ra R0.length rc, .int .i64 N1, .string T1, .int .i64 (iv 2 1), .slice (some ⟨g9, 0, none⟩) ((VL j).length + 1) cp9, .int .i64 (iv 4 1), .bool ov, .int .i64 (iv 6 1), .int .i64 (iv 6 2), .int .i64 (iv 6 3), .slice none 0 0]) := hM10
                have HK10 : Hid (Kept (fun b => b = q) w7 (w9.setCell ⟨q, 4, none⟩ (.slice (some ⟨g9, 0, none⟩) ((VL j).length + 1) cp9))) := HK9.out.trans hk10
                have HO10 : Hid (Ows (w9.setCell ⟨q, 4, none⟩ (.slice (some ⟨g9, 0, none⟩) ((VL j).length + 1) cp9)) w7.heap.size (.slice (some ⟨g9, 0, none⟩) ((VL j).length + 1) cp9) (VL j ++ [(V[j].toNat : Int) - 48])) := HO9.out.kept hk10 (fun i hi e => by have := (HO9.out.lt i hi).1; have := HQL.out; omega)
                clear hM10 hk10
                have HLX : Hid ((VL j).length + 1 = (VL (j + 1)).length) := by show _ = _; rw [HVN.out j hj, HVN.out (j + 1) (by omega)]
                go_wp2
                go_roundw
                case rel => exact ⟨j + 1, some ⟨g9, 0, none⟩, cp9, by omega, (fun h => by cases h), by go_num, by rw [← HLX.out]; exact HM10.out, by rw [← HLX.out, HNX.out]; exact HO10.out, HK10.out⟩
                case measure => simp [intOf]; omega
            · have HRV : Hid (VL j = rvL (wat WW 3 1)) := by
                show _ = _
                rw [HVL.out, ← HVT.out]
                show ((tl V).take j).map Wp3.un = rvL (tl V)
                unfold Wp3.rvL
                cases cc
                · have : j = V.size := by have : ¬ j < V.size := fun e => hgo ⟨rfl, e⟩; omega
                  rw [this, if_neg (HCD.out rfl), List.take_of_length_le (by rw [tl_length]; omega)]
                · rw [HJ0.out rfl, if_pos (HCC.out rfl)]; rfl
              rw [HRV.out] at HMX HOX
              cases cc
              · have hjz : ¬ (j : Int) < (V.size : Int) := by have : ¬ j < V.size := fun e => hgo ⟨rfl, e⟩; omega
                clear hgo
                go_wp2
                go_meet
                case rel => exact ⟨va, vc, HMX.out, HOX.out, HKX.out⟩
              · have hjz : (j : Int) < (V.size : Int) := by
                  have h1 := HJ0.out rfl
                  have h2 := congrArg List.length (HCC.out rfl)
                  rw [tl_length] at h2
                  simp at h2
                  omega
                clear hgo
                go_wp2
                go_meet
                case rel => exact ⟨va, vc, HMX.out, HOX.out, HKX.out⟩
        case rest =>
          obtain ⟨va, vc, hmf, how, hkp⟩ := hcut
          generalize wc = w8 at *
          obtain ⟨RV, hRV⟩ : ∃ l, l = rvL (wat WW 3 1) := ⟨_, rfl⟩
          have HRV : Hid (RV = rvL (wat WW 3 1)) := hRV
          rw [← hRV] at hmf how
          have HM8 : Hid (Mf w8 q [.slice ra R0.length rc, .int .i64 N1, .string T1, .int .i64 (iv 2 1), .slice va RV.length vc, .int .i64 (iv 4 1), .bool ov, .int .i64 (iv 6 1), .int .i64 (iv 6 2), .int .i64 (iv 6 3), .slice none 0 0]) := hmf
          have HO8 : Hid (Ows w8 w7.heap.size (.slice va RV.length vc) RV) := how
          have HK8 : Hid (Kept (fun b => b = q) w7 w8) := hkp
          obtain ⟨ML, hML⟩ : ∃ f : Nat → List Sn, f = fun t => (List.range' 7 t).map fun i => ⟨ws i 1, iv i 2⟩ := ⟨_, rfl⟩
          have HML : Hid (ML = fun t => (List.range' 7 t).map fun i => ⟨ws i 1, iv i 2⟩) := hML
          have HMN : Hid (∀ t, (ML t).length = t) := fun t => by rw [hML]; simp
          have HM0 : Hid (ML 0 = []) := by rw [hML]; rfl
          have HMX : Hid (∀ t, ML (t + 1) = ML t ++ [⟨ws (7 + t) 1, iv (7 + t) 2⟩]) := fun t => by
            rw [hML]
            show (List.range' 7 (t + 1)).map _ = _
            rw [List.range'_1_concat, List.map_append]
            rfl
          have HQ8 : Hid (q < w8.heap.size) := hmf.lt (by simp)
          clear hML hRV hmf how hkp HCC HCD HVL HVN HV0 HVT
          go_wp2
          go_loopw [16] (fun i wy => ∃ (t : Nat) (ma : Option Addr) (mc : Nat), 7 + t ≤ k ∧ i = .int .i64 ((7 + t : Nat) : Int) ∧ Mf wy q [.slice ra R0.length rc, .int .i64 N1, .string T1, .int .i64 (iv 2 1), .slice va RV.length vc, .int .i64 (iv 4 1), .bool ov, .int .i64 (iv 6 1), .int .i64 (iv 6 2), .int .i64 (iv 6 3), .slice ma (ML t).length mc] ∧ OwSo wy w8.heap.size (.slice ma (ML t).length mc) (ML t) ∧ Kept (fun b => b = q) w8 wy) (fun i _ => k - (intOf i).toNat)
          case atStart => exact ⟨0, none, 0, by omega, rfl, by rw [HM0.out]; exact HM8.out, by rw [HM0.out]; exact .inl ⟨rfl, rfl⟩, Kept.refl _ _⟩
          case round =>
            obtain ⟨t, ma, mc, ht, rfl, hmf, how, hkp⟩ := hrel
            generalize wr = wy at *
            have HMY : Hid (Mf wy q [.slice ra R0.length rc, .int .i64 N1, .string T1, .int .i64 (iv 2 1), .slice va RV.length vc, .int .i64 (iv 4 1), .bool ov, .int .i64 (iv 6 1), .int .i64 (iv 6 2), .int .i64 (iv 6 3), .slice ma (ML t).length mc]) := hmf
            have HOY : Hid (OwSo wy w8.heap.size (.slice ma (ML t).length mc) (ML t)) := how
            have HKY : Hid (Kept (fun b => b = q) w8 wy) := hkp
            have HKZ : Hid (Kept (fun b => b = q) w7 wy) := HK8.out.trans hkp
            clear hmf how hkp
            by_cases htk : 7 + t < k
            · obtain ⟨i, hi⟩ : ∃ i, i = 7 + t := ⟨_, rfl⟩
              rw [← hi] at htk ⊢
              have HI : Hid (i = 7 + t) := hi
              clear hi
              have hiz : (i : Int) < (k : Int) := by omega
              have li3 : ls i = 3 := (HLS.out i htk).2.2 (by have := HI.out; omega)
              have li1 : (1 : Int) < (ls i : Int) := by omega
              have li2 : (2 : Int) < (ls i : Int) := by omega
              have HSF : Hid (∀ W, Kept (fun b => b = q) w7 W → W.cell? ⟨gw, i, none⟩ = some (.slice (some ⟨gr i, 0, none⟩) (ls i) (cr i)) ∧ W.cell? ⟨gr i, 1, none⟩ = some (.string (ws i 1)) ∧ W.cell? ⟨gr i, 2, none⟩ = some (.string (ws i 2))) := fun W hW => by
                have h1 := HGK.out W hW
                exact ⟨h1.1 i htk, h1.2.1 i 1 htk (by omega), h1.2.1 i 2 htk (by omega)⟩
              clear li3
              have HNP : Hid (∀ b, At ma b → w8.heap.size ≤ b) := fun b hb => by
                obtain ⟨x, rfl, rfl⟩ := hb
                rcases HOY.out with ⟨e, _⟩ | ⟨g, o, cap, e, h1, _⟩
                · cases e
                · have e1 : x = ⟨g, o, none⟩ := by injection e with h1 h2 h3; injection h1
                  rw [e1]; exact h1
              have HOA : Hid (∀ o, OwSo (wy.alloc o).drew w8.heap.size (.slice ma (ML t).length mc) (ML t)) := fun o => HOY.out.kept (S := fun _ => False) ((Kept.refl _ _).alloc o).drew (fun _ _ _ _ _ h => h)
              have HBS : Hid (∀ o : Obj, w8.heap.size ≤ (wy.alloc o).drew.heap.size) := fun o => Nat.le_trans HKY.out.size ((Kept.refl (fun _ => False) wy).alloc o).drew.size
              have HLA : Hid ((ML t).length ≤ 1048576) := by show _ ≤ _; rw [HMN.out t]; omega
              have HMA : Hid (∀ o, Mf (wy.alloc o).drew q [.slice ra R0.length rc, .int .i64 N1, .string T1, .int .i64 (iv 2 1), .slice va RV.length vc, .int .i64 (iv 4 1), .bool ov, .int .i64 (iv 6 1), .int .i64 (iv 6 2), .int .i64 (iv 6 3), .slice ma (ML t).length mc]) := fun o i hi => (HMY.out.alloc o) i hi
              have HKA : Hid (∀ o, Kept (fun b => b = q) w8 (wy.alloc o).drew) := fun o => (HKY.out.alloc o).drew
              have HLX : Hid ((ML t).length + 1 = (ML (t + 1)).length) := by show _ = _; rw [HMN.out t, HMN.out (t + 1)]
              obtain ⟨d0, d1, d2, d3, d4, d5, d6, d7, d8, d9, d10, z0, z1, z2, z3, z4, z5, z6, z7, z8, z9, z10⟩ := Mf.all HMY.out
              clear d0 d1 d2 d3 d4 d5 d6 d7 d8 d9 z0 z1 z2 z3 z4 z5 z6 z7 z8 z9 z10
              have hd := lt_of_cell d10
              go_upto_region 26 with fail
              refine wp_region_held_drew (S := fun W => W.cell? ⟨gw, i, none⟩ = some (.slice (some ⟨gr i, 0, none⟩) (ls i) (cr i)) ∧ W.cell? ⟨gr i, 1, none⟩ = some (.string (ws i 1)) ∧ W.cell? ⟨gr i, 2, none⟩ = some (.string (ws i 2))) (by kernel_rfl) (HSF.out _ HKZ.out.drew) (fun hHeld => ?_)
              refine wpAnyH_take (i := 0) (v := ?_) rfl (by kernel_rfl) (by kernel_rfl) (by kernel_rfl) (fun _ _ _ h => h) (Or.inl ⟨by rfl, ?_⟩) hHeld ?_
              rotate_left
              · (intro v9 hS9; clear hS9; go_simp; try with_reducible rfl)
              try simp only [Act.put, List.setIfInBounds_toArray, List.set_cons_zero, List.set_cons_succ, List.getElem_toArray, List.getElem_cons_zero]
              refine wpAnyH_take (i := 2) (v := ?_) rfl (by kernel_rfl) (by kernel_rfl) (by kernel_rfl) (fun _ _ _ h => h) (Or.inl ⟨by rfl, ?_⟩) hHeld ?_
              rotate_left
              · (intro v9 hS9; clear hS9; go_simp; try with_reducible rfl)
              try simp only [Act.put, List.setIfInBounds_toArray, List.set_cons_zero, List.set_cons_succ, List.getElem_toArray, List.getElem_cons_zero, List.getElem_cons_succ]
              refine wpAnyH_take (i := 3) (v := ?_) rfl (by kernel_rfl) (by kernel_rfl) (by kernel_rfl) (fun _ _ _ h => h) (Or.inl ⟨by rfl, ?_⟩) hHeld ?_
              rotate_left
              · (intro v9 hS9; clear hS9; go_simp; try with_reducible rfl)
              try simp only [Act.put, List.setIfInBounds_toArray, List.set_cons_zero, List.set_cons_succ, List.getElem_toArray, List.getElem_cons_zero, List.getElem_cons_succ]
              refine wpAnyH_take (i := 4) (v := ?_) rfl (by kernel_rfl) (by kernel_rfl) (by kernel_rfl) (fun _ _ _ h => h) (Or.inl ⟨by rfl, ?_⟩) hHeld ?_
              rotate_left
              · (intro v9 hS9; clear hS9; go_simp; try with_reducible rfl)
              try simp only [Act.put, List.setIfInBounds_toArray, List.set_cons_zero, List.set_cons_succ, List.getElem_toArray, List.getElem_cons_zero, List.getElem_cons_succ]
              refine wpAnyH_take (i := 5) (v := ?_) rfl (by kernel_rfl) (by kernel_rfl) (by kernel_rfl) (fun _ _ _ h => h) (Or.inl ⟨by rfl, ?_⟩) hHeld ?_
              rotate_left
              · (intro v9 hS9; have c0 := hS9.1; clear hS9; go_simp; try with_reducible rfl)
              try simp only [Act.put, List.setIfInBounds_toArray, List.set_cons_zero, List.set_cons_succ, List.getElem_toArray, List.getElem_cons_zero, List.getElem_cons_succ]
              refine wpAnyH_take (i := 6) (v := ?_) rfl (by kernel_rfl) (by kernel_rfl) (by kernel_rfl) (fun _ _ _ h => h) (Or.inl ⟨by rfl, ?_⟩) hHeld ?_
              rotate_left
              · (intro v9 hS9; clear hS9; go_simp; try with_reducible rfl)
              try simp only [Act.put, List.setIfInBounds_toArray, List.set_cons_zero, List.set_cons_succ, List.getElem_toArray, List.getElem_cons_zero, List.getElem_cons_succ]
              refine wpAnyH_take (i := 7) (v := ?_) rfl (by kernel_rfl) (by kernel_rfl) (by kernel_rfl) (fun _ _ _ h => h) (Or.inl ⟨by rfl, ?_⟩) hHeld ?_
              rotate_left
              · (intro v9 hS9; have c0 := hS9.2.1; clear hS9; go_simp; try with_reducible rfl)
              try simp only [Act.put, List.setIfInBounds_toArray, List.set_cons_zero, List.set_cons_succ, List.getElem_toArray, List.getElem_cons_zero, List.getElem_cons_succ]
              refine wpAnyH_take (i := 8) (v := ?_) rfl (by kernel_rfl) (by kernel_rfl) (by kernel_rfl) (fun _ _ _ h => h) (Or.inl ⟨by rfl, ?_⟩) hHeld ?_
              rotate_left
              · (intro v9 hS9; clear hS9; go_simp; try with_reducible rfl)
              try simp only [Act.put, List.setIfInBounds_toArray, List.set_cons_zero, List.set_cons_succ, List.getElem_toArray, List.getElem_cons_zero, List.getElem_cons_succ]
              refine wpAnyH_take (i := 9) (v := ?_) rfl (by kernel_rfl) (by kernel_rfl) (by kernel_rfl) (fun _ _ _ h => h) (Or.inl ⟨by rfl, ?_⟩) hHeld ?_
              rotate_left
              · (intro v9 hS9; clear hS9; go_simp; try with_reducible rfl)
              try simp only [Act.put, List.setIfInBounds_toArray, List.set_cons_zero, List.set_cons_succ, List.getElem_toArray, List.getElem_cons_zero, List.getElem_cons_succ]
              refine wpAnyH_take (i := 10) (v := ?_) rfl (by kernel_rfl) (by kernel_rfl) (by kernel_rfl) (fun _ _ _ h => h) (Or.inl ⟨by rfl, ?_⟩) hHeld ?_
              rotate_left
              · (intro v9 hS9; clear hS9; go_simp; try with_reducible rfl)
              try simp only [Act.put, List.setIfInBounds_toArray, List.set_cons_zero, List.set_cons_succ, List.getElem_toArray, List.getElem_cons_zero, List.getElem_cons_succ]
              refine wpAnyH_take (i := 11) (v := ?_) rfl (by kernel_rfl) (by kernel_rfl) (by kernel_rfl) (fun _ _ _ h => h) (Or.inl ⟨by rfl, ?_⟩) hHeld ?_
              rotate_left
              · (intro v9 hS9; have c0 := hS9.1; clear hS9; go_simp; try with_reducible rfl)
              try simp only [Act.put, List.setIfInBounds_toArray, List.set_cons_zero, List.set_cons_succ, List.getElem_toArray, List.getElem_cons_zero, List.getElem_cons_succ]
              refine wpAnyH_take (i := 12) (v := ?_) rfl (by kernel_rfl) (by kernel_rfl) (by kernel_rfl) (fun _ _ _ h => h) (Or.inl ⟨by rfl, ?_⟩) hHeld ?_
              rotate_left
              · (intro v9 hS9; clear hS9; go_simp; try with_reducible rfl)
              try simp only [Act.put, List.setIfInBounds_toArray, List.set_cons_zero, List.set_cons_succ, List.getElem_toArray, List.getElem_cons_zero, List.getElem_cons_succ]
              refine wpAnyH_take (i := 13) (v := ?_) rfl (by kernel_rfl) (by kernel_rfl) (by kernel_rfl) (fun _ _ _ h => h) (Or.inl ⟨by rfl, ?_⟩) hHeld ?_
              rotate_left
              · (intro v9 hS9; have c0 := hS9.2.2; clear hS9; go_simp; try with_reducible rfl)
              try simp only [Act.put, List.setIfInBounds_toArray, List.set_cons_zero, List.set_cons_succ, List.getElem_toArray, List.getElem_cons_zero, List.getElem_cons_succ]
              refine wpAnyH_ready (rs := [1, 14]) (by kernel_rfl) (by simp) ?_
              refine AllReadyH.cons rfl (fun K hK => ?_) (AllReadyH.cons rfl (fun K hK => ?_) AllReadyH.nil)
              · go_simp
                refine hK.out _ _ hHeld (fun hNext => ?_)
                clear hK K hHeld
                have hHeld := hNext
                clear hNext
                refine wpAnyH_ready (rs := [14]) (by kernel_rfl) (by simp) ?_
                refine AllReadyH.cons rfl (fun K hK => ?_) AllReadyH.nil
                go_simp
                go_wp2_with (go_at_call 60; refine (HIN.out _ _ _).mono ?_; rintro e wq ⟨rfl, hwq⟩; have hwq' := hwq.symm; clear hwq; subst hwq')
                refine hK.out _ _ hHeld (fun hNext => ?_)
                clear hK K hHeld
                have hHeld := hNext
                clear hNext
                refine wpAnyH_take (i := 15) (v := ?_) rfl (by kernel_rfl) (by kernel_rfl) (by kernel_rfl) (fun _ _ _ h => h) (Or.inl ⟨by rfl, ?_⟩) hHeld ?_
                rotate_left
                · (intro v9 hS9; clear hS9; go_simp; try with_reducible rfl)
                try simp only [Act.put, List.setIfInBounds_toArray, List.set_cons_zero, List.set_cons_succ, List.getElem_toArray, List.getElem_cons_zero, List.getElem_cons_succ]
                refine wpAnyH_ready (rs := [16]) (by kernel_rfl) (by simp) ?_
                refine AllReadyH.cons rfl (fun K hK => ?_) AllReadyH.nil
                go_simp
                refine hK.out _ _ (HSF.out _ (HK8.out.trans (HKA.out _))) (fun hNext => ?_)
                clear hK K hHeld
                have hHeld := hNext
                clear hNext
                refine wpAnyH_ready (rs := [17]) (by kernel_rfl) (by simp) ?_
                refine AllReadyH.cons rfl (fun K hK => ?_) AllReadyH.nil
                refine Mw9.step_so _ rfl _ _ rfl w8.heap.size ma mc (ML t) ⟨ws i 1, iv i 2⟩ rfl _ rfl (by simp) (by simp) (HOA.out _) (HBS.out _) HLA.out ?_
                intro g9 q9 cp9 w9 hO9 hK9 hg9
                have HO9 : Hid (OwSo w9 w8.heap.size (.slice (some ⟨g9, q9, none⟩) ((ML t).length + 1) cp9) (ML t ++ [⟨ws i 1, iv i 2⟩])) := hO9
                have HM9 : Hid (Mf w9 q [.slice ra R0.length rc, .int .i64 N1, .string T1, .int .i64 (iv 2 1), .slice va RV.length vc, .int .i64 (iv 4 1), .bool ov, .int .i64 (iv 6 1), .int .i64 (iv 6 2), .int .i64 (iv 6 3), .slice ma (ML t).length mc]) := (HMA.out _).kept hK9 (fun e => by have := HNP.out _ e; have := HQ8.out; omega)
                have HK9 : Hid (Kept (fun b => b = q) w8 w9) := past (HKA.out _) hK9 (fun b hb => .inr (HNP.out b hb))
                clear hO9 hK9 hg9
                refine hK.out _ _ (HSF.out _ (HK8.out.trans HK9.out)) (fun hNext => ?_)
                clear hK K hHeld
                have hHeld := hNext
                clear hNext
                obtain ⟨x0, x1, x2, x3, x4, x5, x6, x7, x8, x9, x10, y0, y1, y2, y3, y4, y5, y6, y7, y8, y9, y10⟩ := Mf.all HM9.out
                clear x0 x1 x2 x3 x4 x5 x6 x7 x8 x9 y0 y1 y2 y3 y4 y5 y6 y7 y8 y9
                have hb9l := lt_of_cell x10
                have hM10 := HM9.out.set 10 (.slice (some ⟨g9, q9, none⟩) ((ML t).length + 1) cp9)
                have hk10 : Kept (fun b => b = q) w9 (w9.setCell ⟨q, 10, none⟩ (.slice (some ⟨g9, q9, none⟩) ((ML t).length + 1) cp9)) := (Kept.refl (fun b => b = q) w9).setCell (p := ⟨q, 10, none⟩) rfl _
                have HM10 : Hid (Mf (w9.setCell ⟨q, 10, none⟩ (.slice (some ⟨g9, q9, none⟩) ((ML t).length + 1) cp9)) q [.slice ra R0.length rc, .int .i64 N1, .string T1, .int .i64 (iv 2 1), .slice va RV.length vc, .int .i64 (iv 4 1), .bool ov, .int .i64 (iv 6 1), .int .i64 (iv 6 2), .int .i64 (iv 6 3), .slice (some ⟨g9, q9, none⟩) ((ML t).length + 1) cp9]) := hM10
                have HK10 : Hid (Kept (fun b => b = q) w8 (w9.setCell ⟨q, 10, none⟩ (.slice (some ⟨g9, q9, none⟩) ((ML t).length + 1) cp9))) := HK9.out.trans hk10
                have HO10 : Hid (OwSo (w9.setCell ⟨q, 10, none⟩ (.slice (some ⟨g9, q9, none⟩) ((ML t).length + 1) cp9)) w8.heap.size (.slice (some ⟨g9, q9, none⟩) ((ML t).length + 1) cp9) (ML t ++ [⟨ws i 1, iv i 2⟩])) := HO9.out.kept hk10 (fun g o n c e h => by have := (HO9.out.lt g o n c e).1; have := HQ8.out; omega)
                clear hM10 hk10
                refine wpAnyH_take (i := 18) (v := ?_) rfl (by kernel_rfl) (by kernel_rfl) (by kernel_rfl) (fun _ _ _ h => h) (Or.inl ⟨by rfl, ?_⟩) hHeld ?_
                rotate_left
                · (intro v9 hS9; clear hS9; go_simp; try with_reducible rfl)
                try simp only [Act.put, List.setIfInBounds_toArray, List.set_cons_zero, List.set_cons_succ, List.getElem_toArray, List.getElem_cons_zero, List.getElem_cons_succ]
                refine wpAnyH_ready (rs := [19]) (by kernel_rfl) (by simp) ?_
                refine AllReadyH.cons rfl (fun K hK => ?_) AllReadyH.nil
                go_simp
                refine hK.out _ _ (HSF.out _ (HK8.out.trans HK10.out)) (fun hNext => ?_)
                clear hK K hHeld hNext x10 y10
                refine wpAnyH_done (by kernel_rfl) ?_ _
                go_wp2
                go_roundw
                case rel => exact ⟨t + 1, some ⟨g9, q9, none⟩, cp9, by have := HI.out; omega, by have := HI.out; go_num, by rw [← HLX.out]; exact HM10.out, by rw [← HLX.out, HMX.out t, ← HI.out]; exact HO10.out, HK10.out⟩
                case measure => simp [intOf]; omega
              · go_simp
                go_wp2_with (go_at_call 60; refine (HIN.out _ _ _).mono ?_; rintro e wq ⟨rfl, hwq⟩; have hwq' := hwq.symm; clear hwq; subst hwq')
                refine hK.out _ _ hHeld (fun hNext => ?_)
                clear hK K hHeld
                have hHeld := hNext
                clear hNext
                refine wpAnyH_take (i := 15) (v := ?_) rfl (by kernel_rfl) (by kernel_rfl) (by kernel_rfl) (fun _ _ _ h => h) (Or.inl ⟨by rfl, ?_⟩) hHeld ?_
                rotate_left
                · (intro v9 hS9; clear hS9; go_simp; try with_reducible rfl)
                try simp only [Act.put, List.setIfInBounds_toArray, List.set_cons_zero, List.set_cons_succ, List.getElem_toArray, List.getElem_cons_zero, List.getElem_cons_succ]
                refine wpAnyH_ready (rs := [1, 16]) (by kernel_rfl) (by simp) ?_
                refine AllReadyH.cons rfl (fun K hK => ?_) (AllReadyH.cons rfl (fun K hK => ?_) AllReadyH.nil)
                · go_simp
                  refine hK.out _ _ hHeld (fun hNext => ?_)
                  clear hK K hHeld
                  have hHeld := hNext
                  clear hNext
                  refine wpAnyH_ready (rs := [16]) (by kernel_rfl) (by simp) ?_
                  refine AllReadyH.cons rfl (fun K hK => ?_) AllReadyH.nil
                  go_simp
                  refine hK.out _ _ (HSF.out _ (HK8.out.trans (HKA.out _))) (fun hNext => ?_)
                  clear hK K hHeld
                  have hHeld := hNext
                  clear hNext
                  refine wpAnyH_ready (rs := [17]) (by kernel_rfl) (by simp) ?_
                  refine AllReadyH.cons rfl (fun K hK => ?_) AllReadyH.nil
                  refine Mw9.step_so _ rfl _ _ rfl w8.heap.size ma mc (ML t) ⟨ws i 1, iv i 2⟩ rfl _ rfl (by simp) (by simp) (HOA.out _) (HBS.out _) HLA.out ?_
                  intro g9 q9 cp9 w9 hO9 hK9 hg9
                  have HO9 : Hid (OwSo w9 w8.heap.size (.slice (some ⟨g9, q9, none⟩) ((ML t).length + 1) cp9) (ML t ++ [⟨ws i 1, iv i 2⟩])) := hO9
                  have HM9 : Hid (Mf w9 q [.slice ra R0.length rc, .int .i64 N1, .string T1, .int .i64 (iv 2 1), .slice va RV.length vc, .int .i64 (iv 4 1), .bool ov, .int .i64 (iv 6 1), .int .i64 (iv 6 2), .int .i64 (iv 6 3), .slice ma (ML t).length mc]) := (HMA.out _).kept hK9 (fun e => by have := HNP.out _ e; have := HQ8.out; omega)
                  have HK9 : Hid (Kept (fun b => b = q) w8 w9) := past (HKA.out _) hK9 (fun b hb => .inr (HNP.out b hb))
                  clear hO9 hK9 hg9
                  refine hK.out _ _ (HSF.out _ (HK8.out.trans HK9.out)) (fun hNext => ?_)
                  clear hK K hHeld
                  have hHeld := hNext
                  clear hNext
                  obtain ⟨x0, x1, x2, x3, x4, x5, x6, x7, x8, x9, x10, y0, y1, y2, y3, y4, y5, y6, y7, y8, y9, y10⟩ := Mf.all HM9.out
                  clear x0 x1 x2 x3 x4 x5 x6 x7 x8 x9 y0 y1 y2 y3 y4 y5 y6 y7 y8 y9
                  have hb9l := lt_of_cell x10
                  have hM10 := HM9.out.set 10 (.slice (some ⟨g9, q9, none⟩) ((ML t).length + 1) cp9)
                  have hk10 : Kept (fun b => b = q) w9 (w9.setCell ⟨q, 10, none⟩ (.slice (some ⟨g9, q9, none⟩) ((ML t).length + 1) cp9)) := (Kept.refl (fun b => b = q) w9).setCell (p := ⟨q, 10, none⟩) rfl _
                  have HM10 : Hid (Mf (w9.setCell ⟨q, 10, none⟩ (.slice (some ⟨g9, q9, none⟩) ((ML t).length + 1) cp9)) q [.slice ra R0.length rc, .int .i64 N1, .string T1, .int .i64 (iv 2 1), .slice va RV.length vc, .int .i64 (iv 4 1), .bool ov, .int .i64 (iv 6 1), .int .i64 (iv 6 2), .int .i64 (iv 6 3), .slice (some ⟨g9, q9, none⟩) ((ML t).length + 1) cp9]) := hM10
                  have HK10 : Hid (Kept (fun b => b = q) w8 (w9.setCell ⟨q, 10, none⟩ (.slice (some ⟨g9, q9, none⟩) ((ML t).length + 1) cp9))) := HK9.out.trans hk10
                  have HO10 : Hid (OwSo (w9.setCell ⟨q, 10, none⟩ (.slice (some ⟨g9, q9, none⟩) ((ML t).length + 1) cp9)) w8.heap.size (.slice (some ⟨g9, q9, none⟩) ((ML t).length + 1) cp9) (ML t ++ [⟨ws i 1, iv i 2⟩])) := HO9.out.kept hk10 (fun g o n c e h => by have := (HO9.out.lt g o n c e).1; have := HQ8.out; omega)
                  clear hM10 hk10
                  refine wpAnyH_take (i := 18) (v := ?_) rfl (by kernel_rfl) (by kernel_rfl) (by kernel_rfl) (fun _ _ _ h => h) (Or.inl ⟨by rfl, ?_⟩) hHeld ?_
                  rotate_left
                  · (intro v9 hS9; clear hS9; go_simp; try with_reducible rfl)
                  try simp only [Act.put, List.setIfInBounds_toArray, List.set_cons_zero, List.set_cons_succ, List.getElem_toArray, List.getElem_cons_zero, List.getElem_cons_succ]
                  refine wpAnyH_ready (rs := [19]) (by kernel_rfl) (by simp) ?_
                  refine AllReadyH.cons rfl (fun K hK => ?_) AllReadyH.nil
                  go_simp
                  refine hK.out _ _ (HSF.out _ (HK8.out.trans HK10.out)) (fun hNext => ?_)
                  clear hK K hHeld hNext x10 y10
                  refine wpAnyH_done (by kernel_rfl) ?_ _
                  go_wp2
                  go_roundw
                  case rel => exact ⟨t + 1, some ⟨g9, q9, none⟩, cp9, by have := HI.out; omega, by have := HI.out; go_num, by rw [← HLX.out]; exact HM10.out, by rw [← HLX.out, HMX.out t, ← HI.out]; exact HO10.out, HK10.out⟩
                  case measure => simp [intOf]; omega
                · go_simp
                  refine hK.out _ _ (HSF.out _ (HK8.out.trans (HKA.out _))) (fun hNext => ?_)
                  clear hK K hHeld
                  have hHeld := hNext
                  clear hNext
                  refine wpAnyH_ready (rs := [1]) (by kernel_rfl) (by simp) ?_
                  refine AllReadyH.cons rfl (fun K hK => ?_) AllReadyH.nil
                  go_simp
                  refine hK.out _ _ hHeld (fun hNext => ?_)
                  clear hK K hHeld
                  have hHeld := hNext
                  clear hNext
                  refine wpAnyH_ready (rs := [17]) (by kernel_rfl) (by simp) ?_
                  refine AllReadyH.cons rfl (fun K hK => ?_) AllReadyH.nil
                  refine Mw9.step_so _ rfl _ _ rfl w8.heap.size ma mc (ML t) ⟨ws i 1, iv i 2⟩ rfl _ rfl (by simp) (by simp) (HOA.out _) (HBS.out _) HLA.out ?_
                  intro g9 q9 cp9 w9 hO9 hK9 hg9
                  have HO9 : Hid (OwSo w9 w8.heap.size (.slice (some ⟨g9, q9, none⟩) ((ML t).length + 1) cp9) (ML t ++ [⟨ws i 1, iv i 2⟩])) := hO9
                  have HM9 : Hid (Mf w9 q [.slice ra R0.length rc, .int .i64 N1, .string T1, .int .i64 (iv 2 1), .slice va RV.length vc, .int .i64 (iv 4 1), .bool ov, .int .i64 (iv 6 1), .int .i64 (iv 6 2), .int .i64 (iv 6 3), .slice ma (ML t).length mc]) := (HMA.out _).kept hK9 (fun e => by have := HNP.out _ e; have := HQ8.out; omega)
                  have HK9 : Hid (Kept (fun b => b = q) w8 w9) := past (HKA.out _) hK9 (fun b hb => .inr (HNP.out b hb))
                  clear hO9 hK9 hg9
                  refine hK.out _ _ (HSF.out _ (HK8.out.trans HK9.out)) (fun hNext => ?_)
                  clear hK K hHeld
                  have hHeld := hNext
                  clear hNext
                  obtain ⟨x0, x1, x2, x3, x4, x5, x6, x7, x8, x9, x10, y0, y1, y2, y3, y4, y5, y6, y7, y8, y9, y10⟩ := Mf.all HM9.out
                  clear x0 x1 x2 x3 x4 x5 x6 x7 x8 x9 y0 y1 y2 y3 y4 y5 y6 y7 y8 y9
                  have hb9l := lt_of_cell x10
                  have hM10 := HM9.out.set 10 (.slice (some ⟨g9, q9, none⟩) ((ML t).length + 1) cp9)
                  have hk10 : Kept (fun b => b = q) w9 (w9.setCell ⟨q, 10, none⟩ (.slice (some ⟨g9, q9, none⟩) ((ML t).length + 1) cp9)) := (Kept.refl (fun b => b = q) w9).setCell (p := ⟨q, 10, none⟩) rfl _
                  have HM10 : Hid (Mf (w9.setCell ⟨q, 10, none⟩ (.slice (some ⟨g9, q9, none⟩) ((ML t).length + 1) cp9)) q [.slice ra R0.length rc, .int .i64 N1, .string T1, .int .i64 (iv 2 1), .slice va RV.length vc, .int .i64 (iv 4 1), .bool ov, .int .i64 (iv 6 1), .int .i64 (iv 6 2), .int .i64 (iv 6 3), .slice (some ⟨g9, q9, none⟩) ((ML t).length + 1) cp9]) := hM10
                  have HK10 : Hid (Kept (fun b => b = q) w8 (w9.setCell ⟨q, 10, none⟩ (.slice (some ⟨g9, q9, none⟩) ((ML t).length + 1) cp9))) := HK9.out.trans hk10
                  have HO10 : Hid (OwSo (w9.setCell ⟨q, 10, none⟩ (.slice (some ⟨g9, q9, none⟩) ((ML t).length + 1) cp9)) w8.heap.size (.slice (some ⟨g9, q9, none⟩) ((ML t).length + 1) cp9) (ML t ++ [⟨ws i 1, iv i 2⟩])) := HO9.out.kept hk10 (fun g o n c e h => by have := (HO9.out.lt g o n c e).1; have := HQ8.out; omega)
                  clear hM10 hk10
                  refine wpAnyH_take (i := 18) (v := ?_) rfl (by kernel_rfl) (by kernel_rfl) (by kernel_rfl) (fun _ _ _ h => h) (Or.inl ⟨by rfl, ?_⟩) hHeld ?_
                  rotate_left
                  · (intro v9 hS9; clear hS9; go_simp; try with_reducible rfl)
                  try simp only [Act.put, List.setIfInBounds_toArray, List.set_cons_zero, List.set_cons_succ, List.getElem_toArray, List.getElem_cons_zero, List.getElem_cons_succ]
                  refine wpAnyH_ready (rs := [19]) (by kernel_rfl) (by simp) ?_
                  refine AllReadyH.cons rfl (fun K hK => ?_) AllReadyH.nil
                  go_simp
                  refine hK.out _ _ (HSF.out _ (HK8.out.trans HK10.out)) (fun hNext => ?_)
                  clear hK K hHeld hNext x10 y10
                  refine wpAnyH_done (by kernel_rfl) ?_ _
                  go_wp2
                  go_roundw
                  case rel => exact ⟨t + 1, some ⟨g9, q9, none⟩, cp9, by have := HI.out; omega, by have := HI.out; go_num, by rw [← HLX.out]; exact HM10.out, by rw [← HLX.out, HMX.out t, ← HI.out]; exact HO10.out, HK10.out⟩
                  case measure => simp [intOf]; omega
            · have ekk : 7 + t = k := by omega
              have htz : ¬ ((7 + t : Nat) : Int) < (k : Int) := by omega
              have hws : ∀ i j, ws i j = bs (wat WW i j) := fun i j => by rw [← (HWZ.out i j).2, bs_tl]
              have hov : ov = decide (wat WW 5 1 = [49]) := by
                rw [← HOV.out, ByteArray.toList_eq, ← (HWZ.out 5 1).2]
                show ((ws 5 1).data.toList == [49]) = decide ((ws 5 1).data.toList = [49])
                by_cases h : (ws 5 1).data.toList = [49]
                · rw [decide_eq_true h]; exact beq_iff_eq.2 h
                · rw [decide_eq_false h]; exact beq_eq_false_iff_ne.2 h
              have hmo : ML t = (List.range' 7 (WW.length - 7)).map fun i => (⟨bs (wat WW i 1), int2 (wat WW i 2)⟩ : Sn) := by
                have hwl : WW.length - 7 = t := by rw [HWW.out, List.length_map, ← HN.out]; omega
                rw [HML.out, hwl, HIV.out]
                refine List.map_congr_left fun i _ => ?_
                rw [hws i 1]
              have HMM : Hid ((⟨R0, N1, T1, iv 2 1, RV, iv 4 1, ov, iv 6 1, iv 6 2, iv 6 3, ML t⟩ : Mc) = madeW WW) := by
                show _ = _
                rw [HR0.out, HN1.out, HT1.out, HRV.out, hmo, hov, HIV.out]
                rfl
              have HSZ1 : Hid (T1.size ≤ 1048576) := by
                show _ ≤ _
                rw [HT1.out, bs_size]
                have h1 := cutS_le 58 (wat WW 1 1)
                have h2 := (HWZ.out 1 1).1
                rw [← (HWZ.out 1 1).2, tl_length] at h1
                rw [← (HWZ.out 1 1).2]
                omega
              have HKS : Hid (∀ x ∈ ML t, x.k.size ≤ 1048576) := fun x hx => by
                rw [HML.out] at hx
                obtain ⟨i, _, rfl⟩ := List.mem_map.1 hx
                exact (HWZ.out i 1).1
              have HMRy : Hid (∀ W, Kept (fun b => b = w.heap.size) wy W → Mr W ⟨R0, N1, T1, iv 2 1, RV, iv 4 1, ov, iv 6 1, iv 6 2, iv 6 3, ML t⟩ ra va ma) := fun W hW => by
                have hwr := HWR.out
                have h7 := HW46.out
                have h8 := HQL.out
                have h9 := HQ8.out
                refine ⟨(BoolsIn.kept (HGK.out wy HKZ.out).2.2.2.2.1 hW (fun b h1 h2 h3 => by omega)).plain, ?_, ?_⟩
                · have ho := (HO8.out.kept HKY.out (fun i hi e => by have := (HO8.out.lt i hi).1; omega)).kept hW (fun i hi e => by have := (HO8.out.lt i hi).1; omega)
                  obtain ⟨a, c, e, hw⟩ := ho.form
                  cases e
                  exact hw.ints
                · have ho := HOY.out.kept hW (fun g o n c e h => by have := (HOY.out.lt g o n c e).1; omega)
                  obtain ⟨a, c, e, hw, _⟩ := ho.form
                  cases e
                  exact hw.plain
              have HSV : Hid (Calls Tryz.prog 12 #[.agg #[.slice ra R0.length rc, .int .i64 N1, .string T1, .int .i64 (iv 2 1), .slice va RV.length vc, .int .i64 (iv 4 1), .bool ov, .int .i64 (iv 6 1), .int .i64 (iv 6 2), .int .i64 (iv 6 3), .slice ma (ML t).length mc]] wy fun e w' => e = .returned (.tuple #[.string (svS ⟨R0, N1, T1, iv 2 1, RV, iv 4 1, ov, iv 6 1, iv 6 2, iv 6 3, ML t⟩), .bool (svB ⟨R0, N1, T1, iv 2 1, RV, iv 4 1, ov, iv 6 1, iv 6 2, iv 6 3, ML t⟩)]) ∧ Below wy.heap.size wy w') :=
                Zm1.sSave ⟨R0, N1, T1, iv 2 1, RV, iv 4 1, ov, iv 6 1, iv 6 2, iv 6 3, ML t⟩ ra va ma rc vc mc wy (HMRy.out wy (Kept.refl _ _)) HSZ1.out HKS.out
              clear hws hov hmo
              obtain ⟨MM, hMM⟩ : ∃ M : Mc, M = ⟨R0, N1, T1, iv 2 1, RV, iv 4 1, ov, iv 6 1, iv 6 2, iv 6 3, ML t⟩ := ⟨_, rfl⟩
              have HM1 : Hid (MM = ⟨R0, N1, T1, iv 2 1, RV, iv 4 1, ov, iv 6 1, iv 6 2, iv 6 3, ML t⟩) := hMM
              have HLD : Hid (ldM s = if okL s MM = true then some MM else none) := by show _ = _; rw [HMD.out, ← HMM.out, ← hMM]
              rw [← hMM] at HSV
              clear hMM HMM HMD
              obtain ⟨BK, hBK⟩ : ∃ B, B = svS MM := ⟨_, rfl⟩
              obtain ⟨gb, hgb⟩ : ∃ b, b = svB MM := ⟨_, rfl⟩
              rw [← hBK, ← hgb] at HSV
              have HBK : Hid (BK = svS MM ∧ gb = svB MM) := ⟨hBK, hgb⟩
              clear hBK hgb
              obtain ⟨d0, d1, d2, d3, d4, d5, d6, d7, d8, d9, d10, z0, z1, z2, z3, z4, z5, z6, z7, z8, z9, z10⟩ := Mf.all HMY.out
              go_wp2_with fail
              clear d0 d1 d2 d3 d4 d5 d6 d7 d8 d9 d10 z0 z1 z2 z3 z4 z5 z6 z7 z8 z9 z10
              refine Calls.mono HSV.out ?_
              rintro e w9 ⟨rfl, hb⟩
              have HK9 : Hid (Kept (fun b => b = w.heap.size) wy w9) := Kept.ofBelow hb
              have HR9 : Hid (Mf w9 w.heap.size [.slice none 0 0, .int .i64 0, .string ⟨#[]⟩, .int .i64 0, .slice none 0 0, .int .i64 0, .bool false, .int .i64 0, .int .i64 0, .int .i64 0, .slice none 0 0]) := (HGK.out wy HKZ.out).2.2.1.below hb
              have HZ9 : Hid (Mf w9 z [.slice none 0 0, .int .i64 0, .string ⟨#[]⟩, .int .i64 0, .slice none 0 0, .int .i64 0, .bool false, .int .i64 0, .int .i64 0, .int .i64 0, .slice none 0 0]) := (HGK.out wy HKZ.out).2.2.2.1.below hb
              have HB9 : Hid (Below w.heap.size w w9) := (HGK.out wy HKZ.out).2.2.2.2.2.trans (hb.mono (HGK.out wy HKZ.out).2.2.2.2.2.size)
              have HM9 : Hid (Mf w9 q [.slice ra R0.length rc, .int .i64 N1, .string T1, .int .i64 (iv 2 1), .slice va RV.length vc, .int .i64 (iv 4 1), .bool ov, .int .i64 (iv 6 1), .int .i64 (iv 6 2), .int .i64 (iv 6 3), .slice ma (ML t).length mc]) := HMY.out.below hb
              clear hb HSV
              cases gb
              · have HF : Hid (ldM s = none) := by
                  show _ = _
                  rw [HLD.out]
                  unfold okL
                  rw [← HBK.out.2]
                  rfl
                have HFN : Hid _ := fin11 HR9.out HB9.out (Nat.le_refl _) (.slice none 0 0) (.int .i64 0) (.string ⟨#[]⟩) (.int .i64 0) (.slice none 0 0) (.int .i64 0) (.bool false) (.int .i64 0) (.int .i64 0) (.int .i64 0) (.slice none 0 0)
                obtain ⟨d0, d1, d2, d3, d4, d5, d6, d7, d8, d9, d10, z0, z1, z2, z3, z4, z5, z6, z7, z8, z9, z10⟩ := HR9.out.all
                obtain ⟨a0, a1, a2, a3, a4, a5, a6, a7, a8, a9, a10, y0, y1, y2, y3, y4, y5, y6, y7, y8, y9, y10⟩ := HZ9.out.all
                go_wp2
                clear d0 d1 d2 d3 d4 d5 d6 d7 d8 d9 d10 z0 z1 z2 z3 z4 z5 z6 z7 z8 z9 z10 a0 a1 a2 a3 a4 a5 a6 a7 a8 a9 a10 y0 y1 y2 y3 y4 y5 y6 y7 y8 y9 y10
                obtain ⟨WF, hWF, HMF, hbz, KF⟩ := HFN.out
                rw [← hWF]
                exact bodyPost_ret (res_m (r := w.heap.size) (b := false) rfl rfl HMF) rfl ⟨LsP.no HF.out, hbz⟩
              by_cases hsv : savT MM = s
              · have hbs : BK = S := by rw [HBK.out.1]; unfold Zs0.svS; rw [← HBK.out.2, if_pos rfl, hsv, HSS.out]
                have hq9 : (BK.toList == S.toList) = true := by rw [hbs]; simp
                have HLY : Hid (ldM s = some ⟨R0, N1, T1, iv 2 1, RV, iv 4 1, ov, iv 6 1, iv 6 2, iv 6 3, ML t⟩) := by
                  show _ = _
                  rw [HLD.out, ← HM1.out, if_pos]
                  unfold okL
                  rw [← HBK.out.2, decide_eq_true hsv]; rfl
                clear hbs hsv
                have HFN : Hid _ := fin11 HR9.out HB9.out (Nat.le_refl _) (.slice ra R0.length rc) (.int .i64 N1) (.string T1) (.int .i64 (iv 2 1)) (.slice va RV.length vc) (.int .i64 (iv 4 1)) (.bool ov) (.int .i64 (iv 6 1)) (.int .i64 (iv 6 2)) (.int .i64 (iv 6 3)) (.slice ma (ML t).length mc)
                obtain ⟨d0, d1, d2, d3, d4, d5, d6, d7, d8, d9, d10, z0, z1, z2, z3, z4, z5, z6, z7, z8, z9, z10⟩ := HR9.out.all
                obtain ⟨a0, a1, a2, a3, a4, a5, a6, a7, a8, a9, a10, y0, y1, y2, y3, y4, y5, y6, y7, y8, y9, y10⟩ := HM9.out.all
                go_wp2
                clear d0 d1 d2 d3 d4 d5 d6 d7 d8 d9 d10 z0 z1 z2 z3 z4 z5 z6 z7 z8 z9 z10 a0 a1 a2 a3 a4 a5 a6 a7 a8 a9 a10 y0 y1 y2 y3 y4 y5 y6 y7 y8 y9 y10
                obtain ⟨WF, hWF, HMF, hbz, KF⟩ := HFN.out
                rw [← hWF]
                exact bodyPost_ret (res_m (r := w.heap.size) (b := true) rfl rfl HMF) rfl ⟨LsP.yes HLY.out (HMRy.out _ (HK9.out.trans KF)), hbz⟩
              · have hq9 : (BK.toList == S.toList) = false := Ss1.eqb_false (by rw [HBK.out.1, HSS.out]; unfold Zs0.svS; rw [← HBK.out.2, if_pos rfl, tl_bs, tl_bs]; exact hsv)
                have HF : Hid (ldM s = none) := by
                  show _ = _
                  rw [HLD.out, if_neg]
                  unfold okL
                  rw [← HBK.out.2, decide_eq_false hsv]; simp
                clear hsv
                have HFN : Hid _ := fin11 HR9.out HB9.out (Nat.le_refl _) (.slice none 0 0) (.int .i64 0) (.string ⟨#[]⟩) (.int .i64 0) (.slice none 0 0) (.int .i64 0) (.bool false) (.int .i64 0) (.int .i64 0) (.int .i64 0) (.slice none 0 0)
                obtain ⟨d0, d1, d2, d3, d4, d5, d6, d7, d8, d9, d10, z0, z1, z2, z3, z4, z5, z6, z7, z8, z9, z10⟩ := HR9.out.all
                obtain ⟨a0, a1, a2, a3, a4, a5, a6, a7, a8, a9, a10, y0, y1, y2, y3, y4, y5, y6, y7, y8, y9, y10⟩ := HZ9.out.all
                go_wp2
                clear d0 d1 d2 d3 d4 d5 d6 d7 d8 d9 d10 z0 z1 z2 z3 z4 z5 z6 z7 z8 z9 z10 a0 a1 a2 a3 a4 a5 a6 a7 a8 a9 a10 y0 y1 y2 y3 y4 y5 y6 y7 y8 y9 y10
                obtain ⟨WF, hWF, HMF, hbz, KF⟩ := HFN.out
                rw [← hWF]
                exact bodyPost_ret (res_m (r := w.heap.size) (b := false) rfl rfl HMF) rfl ⟨LsP.no HF.out, hbz⟩
end Go.Proofs.YtmjmnfegaoegjaaGreatDoor.Zl12
