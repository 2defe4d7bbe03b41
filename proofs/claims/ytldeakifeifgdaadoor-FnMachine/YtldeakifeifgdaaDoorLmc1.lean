/- The law FnMachine. -/
import Derived.BigQuiet
import Derived.Deep.RegionWith
import Derived.Deep.CutBlock
import Derived.Test.YtldeakifeifgdaaDoorMc1
import Derived.Test.YtldeakifeifgdaaDoorMw20
import Derived.Test.YtldeakifeifgdaaDoorPkR1
import Derived.Test.YtldeakifeifgdaaDoorPkR3
import Derived.Test.YtldeakifeifgdaaDoorPkR2
import Derived.Test.YtldeakifeifgdaaDoorIa0
namespace Go.Proofs.YtldeakifeifgdaaDoor.Lmc1
open Go.RowKit
open Ta1 Tc2 Tc5 De0 Mm0 Mx0 Mm1 Mu5 Mu6 Mu8 Mw19 Mw20 Mc1 Tk0
open Nd0 (Kept lt_of_cell)
open Nd6 (Bools BoolsIn)
open Dr0 (Bytes)
open Lw0 (lpow lbig)
open Sa0 (startM)
open Ia0 (iStart)
open Mi4 (iMachineOk iVerdict verV)
open Mm2 (mokB)
open Ddr (drawCase)
open Dm3 (sDecide)
open Ss0 (bs bs_size)
open Ss1 (tl)
set_option linter.unusedVariables false

def keysOk (m : Mc) : Prop := ∀ x ∈ m.memo, x.k.size ≤ maxLen
theorem step_keys {n : Nat} {F : Nat → Bool} {m : Mc} (hn : n ≤ 12) (h : keysOk m) : keysOk (stepM n F m) := by
  unfold stepM
  split
  · exact h
  · split
    · unfold Mu3.downM
      split
      · exact h
      · split
        · exact h
        · exact h
    · unfold upM
      split
      · exact h
      · split
        · exact h
        · exact keep_keys h (key_short (Nat.le_trans (Nat.sub_le _ _) hn) _)
theorem run_keys {n : Nat} {F : Nat → Bool} (hn : n ≤ 12) (k : Nat) : ∀ {m : Mc}, keysOk m → keysOk (runM n F k m) := by
  induction k with
  | zero => exact fun h => h
  | succ k ih =>
    intro m h
    by_cases e : m.over = true ∨ 1000000000 ≤ m.looks ∨ 1000000000 ≤ m.hits
    · rw [runM_stop e]; exact h
    · rw [runM_next e]; exact ih (step_keys hn h)
theorem run_rm {n : Nat} {F : Nat → Bool} (k : Nat) : ∀ {m : Mc}, Rm n F m → Rm n F (runM n F k m) := by
  induction k with
  | zero => exact fun h => h
  | succ k ih =>
    intro m h
    by_cases e : m.over = true ∨ 1000000000 ≤ m.looks ∨ 1000000000 ≤ m.hits
    · rw [runM_stop e]; exact h
    · rw [runM_next e]
      obtain ⟨k1, k2, k3, _, _⟩ := step_ok (F := F) h.ok h.hN (by apply Classical.byContradiction; intro c; exact e (.inr (.inl (by omega)))) (by apply Classical.byContradiction; intro c; exact e (.inr (.inr (by omega))))
      exact ih ⟨k2.trans h.hN, k3.trans h.hS, k1⟩
/-- All that the law asks of a machine from its start on. -/
structure Facts (n : Nat) (F : Nat → Bool) (row : List Bool) (ra : Option Addr) (c rm K : Nat) (W4 : World) (M0 M : Mc) : Prop where
  start : ∀ W, Below W4.heap.size W4 W → Calls Tryd.prog 9 #[.slice ra n c, tv (n : Int) (bs (tab n F)), .int .i64 (rm : Int)] W fun e w' => ∃ ra' va' ma' rc' vc' mc', e = .returned (.tuple #[mval M0 ra' va' ma' rc' vc' mc', .bool true]) ∧ Mr w' M0 ra' va' ma' ∧ Below W.heap.size W w'
  ok : ∀ (W : World) ra' va' ma' rc' vc' mc', Mr W M0 ra' va' ma' → Calls Tryd.prog 10 #[mval M0 ra' va' ma' rc' vc' mc'] W fun e w' => e = .returned (.bool true) ∧ Below W.heap.size W w'
  run : ∀ (W : World) ra' va' ma' rc' vc' mc', Below W4.heap.size W4 W → Mr W M0 ra' va' ma' → Calls Tryd.prog 11 #[mval M0 ra' va' ma' rc' vc' mc', .int .i64 (K : Int)] W fun e w' => ∃ ra' va' ma' rc' vc' mc', e = .returned (mval M ra' va' ma' rc' vc' mc') ∧ PO w' W.heap.size M ra' va' ma' rc' vc' mc' ∧ Below W.heap.size W w'
  ver : ∀ (W : World) ra' va' ma' rc' vc' mc', Mr W M ra' va' ma' → Calls Tryd.prog 13 #[mval M ra' va' ma' rc' vc' mc'] W fun e w' => e = .returned (.tuple #[.int .i64 ((dc row F).toNat : Int), .bool true]) ∧ Below W.heap.size W w'
  memo : M.memo.length ≤ rm
  steps : M.steps ≤ (K : Int)
  hits : rm = 0 → M.hits = 0
theorem facts (n : Nat) (F : Nat → Bool) (row : List Bool) (ra : Option Addr) (c rm K : Nat) (W4 : World) (hn : n ≤ 6) (hrn : row.length = n) (hB : Bools W4 ra row) (hT : TabK W4) (hrm : rm ≤ 40) (h1 : 4 * 2 ^ n ≤ K + 2) (h2 : K ≤ 100000) : ∃ M0 M, Facts n F row ra c rm K W4 M0 M := by
  have hsz : (bs (tab n F)).size ≤ 1048576 := by
    rw [bs_size, tab_length]
    have := (p12 (show n ≤ 12 by omega)).2
    omega
  have htok : tokB (n : Int) (tl (bs (tab n F))) = true := by rw [show tl (bs (tab n F)) = tab n F from Ss1.tl_bs _]; exact tab_tok F (by omega)
  have hM0 : Rm n F (startM row (n : Int) (bs (tab n F)) (rm : Int)) := ⟨rfl, rfl, ⟨htok, by show (row.length : Int) = (n : Int); omega, by show (0 : Int) ≤ (rm : Int) ∧ (rm : Int) ≤ 40; omega, by show ((0 : Nat) : Int) ≤ (rm : Int); omega, by show ((0 : Nat) : Int) ≤ (n : Int); omega, by show (-1 : Int) ≤ -1 ∧ (-1 : Int) ≤ 1; omega, (fun h => by cases h), by show (0 : Int) ≤ 0 ∧ (0 : Int) ≤ 1000000000; omega, by show (0 : Int) ≤ 0 ∧ (0 : Int) ≤ 1000000000; omega, by show (0 : Int) ≤ 0 ∧ (0 : Int) ≤ 1000000000; omega, (fun x hx => by cases hx), (fun x hx => by cases hx), fun i j hi => by simp [startM] at hi⟩⟩
  have hk0 : keysOk (startM row (n : Int) (bs (tab n F)) (rm : Int)) := fun x hx => by cases hx
  have hend := ended row F rm K (by rw [hrn]; exact h1) h2
  rw [hrn] at hend
  have hM := run_rm K hM0
  have hk := run_keys (F := F) (show n ≤ 12 by omega) K hk0
  refine ⟨startM row (n : Int) (bs (tab n F)) (rm : Int), runM n F K (startM row (n : Int) (bs (tab n F)) (rm : Int)), fun W hb => ?_, fun W ra' va' ma' rc' vc' mc' hR => ?_, fun W ra' va' ma' rc' vc' mc' hb hR => ?_, fun W ra' va' ma' rc' vc' mc' hR => ?_, hend.memo, hend.steps, hend.hits⟩
  · have h := iStart ra c row (n : Int) (bs (tab n F)) (rm : Int) W hsz (by omega) (hB.below hb) (startM row (n : Int) (bs (tab n F)) (rm : Int)) true (.inl ⟨rfl, rfl, ⟨htok, by omega⟩, by omega, by omega⟩)
    rw [hrn] at h
    refine h.mono ?_
    rintro e w' ⟨ra', va', ma', rc', vc', mc', rfl, hin, hb2⟩
    exact ⟨ra', va', ma', rc', vc', mc', rfl, ⟨hin.plain, ⟨Nat.zero_le _, .inl rfl⟩, ⟨Nat.zero_le _, .inl rfl⟩⟩, hb2⟩
  · have h := iMachineOk _ ra' va' ma' rc' vc' mc' W hsz hR hk0
    rwa [(mok_iff _).2 hM0.ok] at h
  · exact iRun n F _ ra' va' ma' rc' vc' mc' K W (by omega) hM0 h2 hR hk0 (hT.below hb)
  · have h := iVerdict _ ra' va' ma' rc' vc' mc' W (by rw [hM.hS]; exact hsz) hR hk
    have e : verV (runM n F K (startM row (n : Int) (bs (tab n F)) (rm : Int))) = (((dc row F).toNat : Int), true) := by
      unfold verV
      rw [if_pos ⟨(mok_iff _).2 hM.ok, hend.over⟩, hend.ret]
      rfl
    rw [e] at h
    exact h

set_option maxRecDepth 100000 in
set_option maxHeartbeats 8000000 in
theorem lawMachine (w : World) (a : Option Addr) (len cap : Nat) (hb : Bytes w a len) (hT : TabK w) :
    Calls Tryd.prog 3 #[.slice a len cap] w fun e w' => e = .returned (.bool true) ∧ Below w.heap.size w w' := by
  have HB : Hid (Bytes w a len) := hb
  have HTK : Hid (TabK w) := hT
  clear hb hT
  by_cases hs : 1048576 < len
  · go_enter Tryd.func3, Tryd.ntmps3
    go_wp2_with fail
    refine (lbig _ a len cap true (by simp; omega)).mono ?_
    rintro e w' ⟨rfl, rfl⟩
    go_wp2
    go_ret
    exact ⟨rfl, Below.refl _ _⟩
  have hsl : len ≤ 1048576 := by omega
  go_enter Tryd.func3, Tryd.ntmps3
  go_wp2_with fail
  refine (lbig _ a len cap false (by simp; omega)).mono ?_
  rintro e w0 ⟨rfl, hw0⟩
  have hw0' := hw0.symm
  clear hw0
  subst hw0'
  go_wp2_with fail
  refine (drawCase _ a len cap HB.out).mono ?_
  rintro e w1 ⟨⟨n, F, row, ra, c, hn, hrn, hnc, rfl, hBo⟩, hb1⟩
  have HBO : Hid (Bools w1 ra row) := hBo
  have HB1 : Hid (Below w.heap.size w w1) := hb1
  have HRN : Hid (row.length = n) := hrn
  have HSD : Hid (∀ (W : World), Below w1.heap.size w1 W → Calls Tryd.prog 8 #[.slice ra n c, tv (n : Int) (bs (tab n F))] W fun e w' => e = .returned (.tuple #[.int .i64 ((dc row F).toNat : Int), .bool true]) ∧ Below W.heap.size W w') := fun W hb => sDecide n F ra row c W (by omega) hrn (hBo.below hb) hnc
  clear hBo hb1 hrn
  go_upto_region 4 with fail
  obtain ⟨W2, hW2⟩ : ∃ W, W = w1.alloc (.cells #[.int .i64 (n : Int), .string (bs (tab n F))] 26) := ⟨_, rfl⟩
  obtain ⟨q4, hq4⟩ : ∃ q, q = w1.heap.size := ⟨_, rfl⟩
  have HL2 : Hid (Lay W2 q4 (.int .i64 (n : Int)) (.string (bs (tab n F)))) := by rw [hW2, hq4]; exact Lay.made _ _ _ _
  have HB2 : Hid (Below w1.heap.size w1 W2) := by rw [hW2]; exact (Below.refl _ _).alloc (Nat.le_refl _) _
  rw [← hW2, ← hq4]
  clear hW2 hq4
  obtain ⟨t0, t1, _, _⟩ := HL2.out
  go_wp2_with fail
  clear t0 t1
  refine (HSD.out _ HB2.out).mono ?_
  rintro e w3 ⟨rfl, hb3⟩
  have HB3 : Hid (Below w1.heap.size w1 w3) := HB2.out.trans (hb3.mono HB2.out.size)
  have HL3 : Hid (Lay w3 q4 (.int .i64 (n : Int)) (.string (bs (tab n F)))) := HL2.out.below hb3
  clear hb3 HL2 HB2
  go_upto_region 6 with fail
  obtain ⟨W4, hW4⟩ : ∃ W, W = w3.alloc (.cells #[.int .i64 0, .int .i64 1, .int .i64 5, .int .i64 40] 3) := ⟨_, rfl⟩
  obtain ⟨qr, hqr⟩ : ∃ q, q = w3.heap.size := ⟨_, rfl⟩
  have HCR : Hid (∀ W, Below W4.heap.size W4 W → ∀ j, j < 4 → W.cell? ⟨qr, j, none⟩ = some (.int .i64 ((([0, 1, 5, 40] : List Nat).getD j 0 : Nat) : Int)) ∧ qr < W.heap.size) := by
    intro W hb j hj
    have hlt : qr < W4.heap.size := by rw [hW4, hqr]; simp
    rw [hb.cell (p := ⟨qr, j, none⟩) hlt]
    refine ⟨?_, Nat.lt_of_lt_of_le hlt hb.size⟩
    rw [hW4, hqr, World.cell?_alloc_new]
    have hj4 : j = 0 ∨ j = 1 ∨ j = 2 ∨ j = 3 := by omega
    rcases hj4 with rfl | rfl | rfl | rfl <;> rfl
  have HB4 : Hid (Below w1.heap.size w1 W4) := by rw [hW4]; exact HB3.out.alloc HB3.out.size _
  have HL4 : Hid (Lay W4 q4 (.int .i64 (n : Int)) (.string (bs (tab n F)))) := by rw [hW4]; exact HL3.out.alloc _
  have HW4 : Hid (Below w.heap.size w W4) := HB1.out.trans (HB4.out.mono HB1.out.size)
  rw [← hW4, ← hqr]
  clear hW4 hqr HL3 HB3 HSD
  obtain ⟨K, hK⟩ : ∃ K : Nat, K = 3 * 2 ^ (n + 1) + 2 := ⟨_, rfl⟩
  have hp7 : 2 ^ (n + 1) ≤ 128 := by
    have := Nat.pow_le_pow_right (show 0 < 2 by decide) (show n + 1 ≤ 7 by omega)
    omega
  have hpn : 2 ^ (n + 1) = 2 * 2 ^ n := by rw [Nat.pow_succ]; omega
  have HFA : Hid (∀ rm, rm ≤ 40 → ∃ M0 M, Facts n F row ra c rm K W4 M0 M) := fun rm hrm => facts n F row ra c rm K W4 hn HRN.out (HBO.out.below HB4.out) (HTK.out.below HW4.out) hrm (by omega) (by omega)
  obtain ⟨P, hP⟩ : ∃ P : Int, P = Pl1.p2 (n + 1) := ⟨_, rfl⟩
  have hP1 : 0 ≤ P ∧ P ≤ 128 := by
    have : P = ((2 ^ (n + 1) : Nat) : Int) := by rw [hP]; unfold Pl1.p2; simp
    omega
  have HPW : Hid (∀ W, Calls Tryd.prog 12 #[.int .i64 ((n : Int) + 1)] W fun e w' => e = .returned (.int .i64 P) ∧ w' = W) := fun W => by
    have h := lpow ((n : Int) + 1) W (by omega) (by omega)
    rw [show ((n : Int) + 1).toNat = n + 1 by omega, ← hP] at h
    exact h
  have HPK : Hid (3 * P + 2 = (K : Int)) := by
    show _ = _
    have : P = ((2 ^ (n + 1) : Nat) : Int) := by rw [hP]; unfold Pl1.p2; simp
    omega
  have hK1 : K ≤ 1000 := by omega
  clear hK hP hp7 hpn HBO HB1 HRN
  go_loopw [28] (fun i wr => ∃ j : Nat, j ≤ 4 ∧ i = .int .i64 j ∧ Below W4.heap.size W4 wr) (fun i _ => 4 - (intOf i).toNat)
  case atStart => exact ⟨0, by omega, rfl, Below.refl _ _⟩
  case round =>
    obtain ⟨j, hj, rfl, hbr⟩ := hrel
    have HR : Hid (Below W4.heap.size W4 wr) := hbr
    clear hbr
    by_cases hlt : j < 4
    · have hjz : (j : Int) < 4 := by omega
      obtain ⟨rm, hrm⟩ : ∃ rm : Nat, rm = ([0, 1, 5, 40] : List Nat).getD j 0 := ⟨_, rfl⟩
      obtain ⟨r0, hqrl⟩ := HCR.out wr HR.out j hlt
      rw [← hrm] at r0
      have hrm40 : rm ≤ 40 := by
        have hj4 : j = 0 ∨ j = 1 ∨ j = 2 ∨ j = 3 := by omega
        rcases hj4 with rfl | rfl | rfl | rfl <;> rw [hrm] <;> decide
      clear hrm
      obtain ⟨M0, M, hF⟩ := HFA.out rm hrm40
      have HST : Hid _ := hF.start
      have HOK : Hid _ := hF.ok
      have HRU : Hid _ := hF.run
      have HVE : Hid _ := hF.ver
      have hmemo := hF.memo
      have hsteps := hF.steps
      have HHI : Hid (rm = 0 → M.hits = 0) := hF.hits
      clear hF
      obtain ⟨S, hS⟩ : ∃ S, S = bs (tab n F) := ⟨_, rfl⟩
      obtain ⟨X, hX⟩ : ∃ X, X = ((dc row F).toNat : Int) := ⟨_, rfl⟩
      have HLR : Hid (Lay wr q4 (.int .i64 (n : Int)) (.string (bs (tab n F)))) := HL4.out.below HR.out
      clear HCR HFA
      rw [← hS] at HLR HST
      rw [← hX] at HVE
      rw [← hX]
      clear hS hX
      obtain ⟨t0, t1, _, _⟩ := HLR.out
      go_wp2_with fail
      clear t0 t1 r0 hqrl
      refine (HST.out _ HR.out).mono ?_
      rintro e w5 ⟨kra, kva, kma, krc, kvc, kmc, rfl, hmr5, hb5⟩
      have HR5 : Hid (Below W4.heap.size W4 w5) := HR.out.trans (hb5.mono HR.out.size)
      have HL5 : Hid (Lay w5 q4 (.int .i64 (n : Int)) (.string S)) := HLR.out.below hb5
      have HM5 : Hid (Mr w5 M0 kra kva kma) := hmr5
      clear hb5 hmr5 HLR HR
      go_upto_region 9 with fail
      obtain ⟨w6, hw6⟩ : ∃ W, W = w5.alloc (.cells #[.slice kra M0.row.length krc, .int .i64 M0.N, .string M0.S, .int .i64 M0.room, .slice kva M0.vals.length kvc, .int .i64 M0.ret, .bool M0.over, .int .i64 M0.steps, .int .i64 M0.looks, .int .i64 M0.hits, .slice kma M0.memo.length kmc] 34) := ⟨_, rfl⟩
      obtain ⟨qm, hqm⟩ : ∃ q, q = w5.heap.size := ⟨_, rfl⟩
      have HM6 : Hid (Mf w6 qm [.slice kra M0.row.length krc, .int .i64 M0.N, .string M0.S, .int .i64 M0.room, .slice kva M0.vals.length kvc, .int .i64 M0.ret, .bool M0.over, .int .i64 M0.steps, .int .i64 M0.looks, .int .i64 M0.hits, .slice kma M0.memo.length kmc]) := by rw [hw6, hqm]; exact Mf.made _ _ _
      have hb6 : Below w5.heap.size w5 w6 := by rw [hw6]; exact (Below.refl _ _).alloc (Nat.le_refl _) _
      have HR6 : Hid (Below W4.heap.size W4 w6) := HR5.out.trans (hb6.mono HR5.out.size)
      have HL6 : Hid (Lay w6 q4 (.int .i64 (n : Int)) (.string S)) := HL5.out.below hb6
      have HN6 : Hid (Mr w6 M0 kra kva kma) := HM5.out.below hb6
      have HQM : Hid (W4.heap.size ≤ qm) := by show _ ≤ _; rw [hqm]; exact HR5.out.size
      rw [← hw6, ← hqm]
      clear hw6 hqm hb6 HL5 HM5 HR5
      obtain ⟨c0, c1, c2, c3, c4, c5, c6, c7, c8, c9, c10, z0, z1, z2, z3, z4, z5, z6, z7, z8, z9, z10⟩ := HM6.out.all
      have hqml := HM6.out.lt (by simp)
      go_wp2_with fail
      clear c0 c1 c2 c3 c4 c5 c6 c7 c8 c9 c10 z0 z1 z2 z3 z4 z5 z6 z7 z8 z9 z10 hqml
      refine (HOK.out _ _ _ _ _ _ _ HN6.out).mono ?_
      rintro e w7 ⟨rfl, hb7⟩
      have HR7 : Hid (Below W4.heap.size W4 w7) := HR6.out.trans (hb7.mono HR6.out.size)
      have HL7 : Hid (Lay w7 q4 (.int .i64 (n : Int)) (.string S)) := HL6.out.below hb7
      have HN7 : Hid (Mr w7 M0 kra kva kma) := HN6.out.below hb7
      have HM7 : Hid (Mf w7 qm [.slice kra M0.row.length krc, .int .i64 M0.N, .string M0.S, .int .i64 M0.room, .slice kva M0.vals.length kvc, .int .i64 M0.ret, .bool M0.over, .int .i64 M0.steps, .int .i64 M0.looks, .int .i64 M0.hits, .slice kma M0.memo.length kmc]) := HM6.out.below hb7
      clear hb7 HL6 HN6 HM6 HR6
      go_upto_region 11 with fail
      rw [← HPK.out] at HRU
      have dd : Below w7.heap.size w7 w7.drew := (Below.refl _ _).drew
      have HRD : Hid (Below W4.heap.size W4 w7.drew) := HR7.out.drew
      have HND : Hid (Mr w7.drew M0 kra kva kma) := HN7.out.below dd
      have HMD : Hid (Mf w7.drew qm [.slice kra M0.row.length krc, .int .i64 M0.N, .string M0.S, .int .i64 M0.room, .slice kva M0.vals.length kvc, .int .i64 M0.ret, .bool M0.over, .int .i64 M0.steps, .int .i64 M0.looks, .int .i64 M0.hits, .slice kma M0.memo.length kmc]) := HM7.out.below dd
      have HLD : Hid (Lay w7.drew q4 (.int .i64 (n : Int)) (.string S)) := HL7.out.below dd
      clear dd HL7 HN7 HM7 HR7
      obtain ⟨c0, c1, c2, c3, c4, c5, c6, c7, c8, c9, c10, z0, z1, z2, z3, z4, z5, z6, z7, z8, z9, z10⟩ := HMD.out.all
      have hqml := HMD.out.lt (by simp)
      have t0 := HLD.out.c0
      have hq4l := HLD.out.lt
      have hwr1 : IntKind.i64.wrap ((n : Int) + 1) = (n : Int) + 1 := by rw [IntKind.wrap_i64]; omega
      have hwr2 : IntKind.i64.wrap (3 * P) = 3 * P := by rw [IntKind.wrap_i64]; omega
      have hwr3 : IntKind.i64.wrap (3 * P + 2) = 3 * P + 2 := by rw [IntKind.wrap_i64]; omega
      clear z0 z1 z2 z3 z4 z5 z6 z7 z8 z9 z10
      go_region_with ((first | (go_at_call 12; (with_reducible refine (HPW.out _).mono ?_); rintro e w' ⟨rfl, hw'⟩; have hw'' := hw'.symm; clear hw'; subst hw'') | (go_at_call 11; (with_reducible refine (HRU.out _ _ _ _ _ _ _ HRD.out HND.out).mono ?_); rintro e wq ⟨lra, lva, lma, lrc, lvc, lmc, rfl, hpo, hbq⟩; have HMQ : Hid (Mf wq qm [.slice kra M0.row.length krc, .int .i64 M0.N, .string M0.S, .int .i64 M0.room, .slice kva M0.vals.length kvc, .int .i64 M0.ret, .bool M0.over, .int .i64 M0.steps, .int .i64 M0.looks, .int .i64 M0.hits, .slice kma M0.memo.length kmc]) := HMD.out.below hbq; have HLQ : Hid (Lay wq q4 (.int .i64 (n : Int)) (.string S)) := HLD.out.below hbq; have HRQ : Hid (Below W4.heap.size W4 wq) := HRD.out.trans (hbq.mono HRD.out.size); have HPO : Hid (PO wq w7.drew.heap.size M lra lva lma lrc lvc lmc) := hpo; clear hpo hbq c0 c1 c2 c3 c4 c5 c6 c7 c8 c9 c10 t0; obtain ⟨d0, d1, d2, d3, d4, d5, d6, d7, d8, d9, d10, y0, y1, y2, y3, y4, y5, y6, y7, y8, y9, y10⟩ := HMQ.out.all; have hqml2 := HMQ.out.lt (by simp))))
      all_goals
        clear d0 d1 d2 d3 d4 d5 d6 d7 d8 d9 d10 y0 y1 y2 y3 y4 y5 y6 y7 y8 y9 y10 hqml2 hq4l HMD HLD HND HRD
        obtain ⟨WF, hWF⟩ : ∃ WF, WF = (((((((((((wq).setCell ⟨qm, 0, none⟩ (.slice lra M.row.length lrc)).setCell ⟨qm, 1, none⟩ (.int .i64 M.N)).setCell ⟨qm, 2, none⟩ (.string M.S)).setCell ⟨qm, 3, none⟩ (.int .i64 M.room)).setCell ⟨qm, 4, none⟩ (.slice lva M.vals.length lvc)).setCell ⟨qm, 5, none⟩ (.int .i64 M.ret)).setCell ⟨qm, 6, none⟩ (.bool M.over)).setCell ⟨qm, 7, none⟩ (.int .i64 M.steps)).setCell ⟨qm, 8, none⟩ (.int .i64 M.looks)).setCell ⟨qm, 9, none⟩ (.int .i64 M.hits)).setCell ⟨qm, 10, none⟩ (.slice lma M.memo.length lmc) := ⟨_, rfl⟩
        rw [← hWF]
        have KF : Kept (fun b => b = qm) wq WF := by rw [hWF]; exact ((((((((((((Kept.refl (fun b => b = qm) wq)).setCell (p := ⟨qm, 0, none⟩) rfl _).setCell (p := ⟨qm, 1, none⟩) rfl _).setCell (p := ⟨qm, 2, none⟩) rfl _).setCell (p := ⟨qm, 3, none⟩) rfl _).setCell (p := ⟨qm, 4, none⟩) rfl _).setCell (p := ⟨qm, 5, none⟩) rfl _).setCell (p := ⟨qm, 6, none⟩) rfl _).setCell (p := ⟨qm, 7, none⟩) rfl _).setCell (p := ⟨qm, 8, none⟩) rfl _).setCell (p := ⟨qm, 9, none⟩) rfl _).setCell (p := ⟨qm, 10, none⟩) rfl _
        have HMF : Hid (Mf WF qm [.slice lra M.row.length lrc, .int .i64 M.N, .string M.S, .int .i64 M.room, .slice lva M.vals.length lvc, .int .i64 M.ret, .bool M.over, .int .i64 M.steps, .int .i64 M.looks, .int .i64 M.hits, .slice lma M.memo.length lmc]) := by
          rw [hWF]
          exact (((((((((((HMQ.out).set 0 (.slice lra M.row.length lrc)).set 1 (.int .i64 M.N)).set 2 (.string M.S)).set 3 (.int .i64 M.room)).set 4 (.slice lva M.vals.length lvc)).set 5 (.int .i64 M.ret)).set 6 (.bool M.over)).set 7 (.int .i64 M.steps)).set 8 (.int .i64 M.looks)).set 9 (.int .i64 M.hits)).set 10 (.slice lma M.memo.length lmc)
        clear hWF
        have hq4m : ¬ q4 = qm := by
          have h1 := HL4.out.lt
          have h2 := HQM.out
          omega
        have HLF : Hid (Lay WF q4 (.int .i64 (n : Int)) (.string S)) := HLQ.out.kept KF hq4m
        have HRF : Hid (Below W4.heap.size W4 WF) := HRQ.out.trans (KF.below (fun b hb => by rw [hb]; exact HQM.out) HRQ.out.size)
        have po := HPO.out
        have HNF : Hid (Mr WF M lra lva lma) := (po.kept KF (fun b hb e => by have := (po.ge (.inl hb)).1; omega) (fun b hb e => by have := (po.ge (.inr (.inl hb))).1; omega) (fun b hb e => by have := (po.ge (.inr (.inr hb))).1; omega)).mr
        clear po KF HPO HMQ HLQ HRQ hqml hq4m
        obtain ⟨c0, c1, c2, c3, c4, c5, c6, c7, c8, c9, c10, z0, z1, z2, z3, z4, z5, z6, z7, z8, z9, z10⟩ := HMF.out.all
        have hqml := HMF.out.lt (by simp)
        go_wp2_with fail
        clear c0 c1 c2 c3 c4 c5 c6 c7 c8 c9 c10 z0 z1 z2 z3 z4 z5 z6 z7 z8 z9 z10 hqml
        refine (HVE.out _ _ _ _ _ _ _ HNF.out).mono ?_
        rintro e w9 ⟨rfl, hb9⟩
        have HR9 : Hid (Below W4.heap.size W4 w9) := HRF.out.trans (hb9.mono HRF.out.size)
        have HL9 : Hid (Lay w9 q4 (.int .i64 (n : Int)) (.string S)) := HLF.out.below hb9
        have HM9 : Hid (Mf w9 qm [.slice lra M.row.length lrc, .int .i64 M.N, .string M.S, .int .i64 M.room, .slice lva M.vals.length lvc, .int .i64 M.ret, .bool M.over, .int .i64 M.steps, .int .i64 M.looks, .int .i64 M.hits, .slice lma M.memo.length lmc]) := HMF.out.below hb9
        clear hb9 HLF HMF HRF HNF HVE HRU HOK HST
        obtain ⟨c0, c1, c2, c3, c4, c5, c6, c7, c8, c9, c10, z0, z1, z2, z3, z4, z5, z6, z7, z8, z9, z10⟩ := HM9.out.all
        clear z0 z1 z2 z3 z4 z5 z6 z7 z8 z9 z10 c0 c1 c2 c3 c4 c5 c6 c8
        have hqml := HM9.out.lt (by simp)
        have t0 := HL9.out.c0
        have hq4l := HL9.out.lt
        have hXX : (X != X) = false := by simp
        have hg1 : ¬ (rm : Int) < (M.memo.length : Int) := by omega
        have hg1n : ¬ rm < M.memo.length := by omega
        have hg2 : ¬ 3 * P + 2 < M.steps := by have := HPK.out; omega
        by_cases hr0 : rm = 0
        · have hr1 : ((rm : Int) == 0) = true := by rw [hr0]; rfl
          have hh : (M.hits != 0) = false := by rw [HHI.out hr0]; rfl
          clear hr0
          go_wp2_with fail
          go_quiet ((go_at_call 12; exact Calls.quiet_of_same (HPW.out _)))
          go_wp2
          go_roundw
          case rel => exact ⟨j + 1, by omega, by go_num, HR9.out.trans ⟨rfl, rfl, rfl, Nat.le_refl _, fun _ _ => rfl⟩⟩
          case measure => simp [intOf]; omega
        · have hr1 : ((rm : Int) == 0) = false := beq_eq_false_iff_ne.2 (by omega)
          clear hr0
          go_wp2_with fail
          go_quiet ((go_at_call 12; exact Calls.quiet_of_same (HPW.out _)))
          go_wp2
          go_roundw
          case rel => exact ⟨j + 1, by omega, by go_num, HR9.out.trans ⟨rfl, rfl, rfl, Nat.le_refl _, fun _ _ => rfl⟩⟩
          case measure => simp [intOf]; omega
    · have hjz : ¬ (j : Int) < 4 := by omega
      go_wp2
      go_ret
      exact ⟨rfl, HW4.out.trans (HR.out.mono HW4.out.size)⟩
end Go.Proofs.YtldeakifeifgdaaDoor.Lmc1
