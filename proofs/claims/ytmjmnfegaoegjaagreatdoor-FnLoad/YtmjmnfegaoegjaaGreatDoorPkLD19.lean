/- Small texts of mine, one behind the other. -/
import Derived.Deep.CutBlock
import Derived.Deep.CutRange
import Derived.Test.YtmjmnfegaoegjaaGreatDoorMu8
import Derived.Test.YtmjmnfegaoegjaaGreatDoorPkLD4
import Derived.Test.YtmjmnfegaoegjaaGreatDoorPkLD3
import Derived.Test.YtmjmnfegaoegjaaGreatDoorPkLD7
/- The model's MachineRun of what is not so; MachineStep. Written by tools/gen_mu9.py. -/
namespace Go.Proofs.YtmjmnfegaoegjaaGreatDoor.Mu9
open Go.RowKit
open Nd0 (Kept Ints lt_of_cell At)
open Ap0 Ap1 Qc0 Qc2 Cl0 Mm0 Mx0 Mu1 Mu2 Mu3 Mu4 Mu5 Mu6 Mu7 Mu8
open Mm2 (mokB sMachineOk)
open Tc2 (tv sInT sInF)
open Ta1 (tab tok_tab)
open Ss0 (bs bs_size)
open Ss1 (tl bs_tl)
set_option linter.unusedVariables false

end Go.Proofs.YtmjmnfegaoegjaaGreatDoor.Mu9

/- The draws of a machine that runs. Written by tools/mkrd.py. -/
namespace Go.Proofs.YtmjmnfegaoegjaaGreatDoor.Rd0
open Go.RowKit
open Ta0 Ta1 Tc2 Tdw Ap1 Ddr Mm0 Mx0 Mu2 Mu6 Mu8
open Nd0 (Kept set_same set_other lt_of_cell)
open Nd6 (Bools BoolsIn)
open Dr0 (Cur Only Bytes)
open Ss0 (bs bs_size)
open Ss1 (tl)
open Sa0 (startM sStart1)
set_option linter.unusedVariables false

theorem onlyB {b : Nat} {w w' : World} (h : Below w.heap.size w w') : Only b w w' := ⟨h.os, h.tape, h.output, h.size, fun k hk _ => h.block k hk⟩
theorem curB {w w' : World} {b : Nat} {a : Option Addr} {len cap : Nat} (h : Cur w b a len cap) (k : Below w.heap.size w w') : Cur w' b a len cap := cur_kept h (S := fun _ => False) (Kept.ofBelow k) (fun h => h) (.inr fun _ _ h => h)
theorem pickP (w : World) (b : Nat) (a : Option Addr) (len cap : Nat) (c : Array Value) (T m : Nat) (P : Int → Prop) (h0 : 1 ≤ m) (h1 : m ≤ 256) (hC : ∀ i, i < m → ∃ v : Int, c[i]? = some (.int .i64 v) ∧ P v) (hc : Cur w b a len cap) :
    Calls Tryz.prog 64 #[.pointer (some ⟨b, 0, none⟩), .slice (some ⟨w.heap.size, 0, none⟩) m m] (w.alloc (.cells c T)) fun e w' => (∃ x : Int, e = .returned (.int .i64 x) ∧ P x) ∧ Cur w' b a len cap ∧ Only b w w' := by
  have hbl := hc.lt
  have HC : Hid (Cur (w.alloc (.cells c T)) b a len cap) := hc.alloc _
  have HI : Hid (∀ i, i < m → ∃ v : Int, (w.alloc (.cells c T)).cell? ⟨w.heap.size, i, none⟩ = some (.int .i64 v) ∧ P v) := fun i hi => by
    obtain ⟨v, hv, hp⟩ := hC i hi
    exact ⟨v, by rw [World.cell?_alloc_new]; exact hv, hp⟩
  have HO : Hid (Only b w (w.alloc (.cells c T))) := (Only.refl b w).alloc _
  obtain ⟨W, hW⟩ : ∃ W, W = w.alloc (.cells c T) := ⟨_, rfl⟩
  obtain ⟨g, hg⟩ : ∃ g, g = w.heap.size := ⟨_, rfl⟩
  rw [← hW] at HC HI HO ⊢
  rw [← hg] at HI ⊢
  have hgb : g ≠ b := by omega
  clear hc hC hW hg hbl
  go_enter Tryz.func64, Tryz.ntmps64
  go_wp2_with fail
  refine (Dr1.below _ b a len cap _ (by omega) (by omega) HC.out).mono ?_
  rintro e w' ⟨⟨x, rfl, hx0, hx1⟩, hc', ho'⟩
  have HC' : Hid (Cur w' b a len cap) := hc'
  have HO' : Hid (Only b w w') := HO.out.trans ho'
  obtain ⟨v, hv, hp⟩ := HI.out x.toNat (by omega)
  have hv' : w'.cell? ⟨g, x.toNat, none⟩ = some (.int .i64 v) := by rw [ho'.cell (lt_of_cell hv) hgb]; exact hv
  have HP : Hid (P v) := hp
  clear hv hp hc' ho' HI HO HC
  go_wp2
  go_ret
  exact ⟨⟨_, rfl, HP.out⟩, HC'.out, HO'.out⟩

set_option maxRecDepth 100000 in
set_option maxHeartbeats 4000000 in
theorem rowS (w : World) (b : Nat) (a : Option Addr) (len cap : Nat) (n : Nat) (hn : n ≤ 6) (hc : Cur w b a len cap) :
    Calls Tryz.prog 61 #[.pointer (some ⟨b, 0, none⟩), .int .i64 (n : Int)] w fun e w' => (∃ (g c : Nat) (l : List Bool), e = .returned (.slice (some ⟨g, 0, none⟩) n c) ∧ l.length = n ∧ DB w b a len cap (.slice (some ⟨g, 0, none⟩) n c) n w' ∧ Owb w' w.heap.size (.slice (some ⟨g, 0, none⟩) n c) l) := by
  have HLO : Hid (Low a len w.heap.size) := low_of hc.bytes
  have hbl : b < w.heap.size := hc.lt
  have HD0 : Hid (DB w b a len cap (.slice (some ⟨w.heap.size, 0, none⟩) 0 0) 0 (w.alloc (.cells #[] 4))) :=
    ⟨hc.alloc _, ⟨[], rfl, Owb.lit w _ (Nat.le_refl _)⟩, by simp, (Only.refl _ _).alloc _⟩
  clear hc
  go_enter Tryz.func61, Tryz.ntmps61
  go_wp2
  go_loopw [5, 6] (fun v i wr => ∃ k g c : Nat, k ≤ n ∧ i = .int .i64 k ∧ v = .slice (some ⟨g, 0, none⟩) k c ∧ DB w b a len cap v k wr) (fun _ i _ => n - (intOf i).toNat)
  case atStart => exact ⟨0, _, _, Nat.zero_le _, rfl, rfl, HD0.out⟩
  case round =>
    obtain ⟨k, gk, ck, hk, rfl, rfl, hdt⟩ := hrel
    have HD : Hid (DB w b a len cap (.slice (some ⟨gk, 0, none⟩) k ck) k wr) := hdt
    clear hdt
    by_cases hlt : k < n
    · have hkz : (k : Int) < (n : Int) := by omega
      go_wp2_with fail
      refine (Dr1.once _ b a len cap 2 (by omega) (by omega) HD.out.cur).mono ?_
      rintro e w3 ⟨⟨z, rfl⟩, hc3, ho3⟩
      have HD3 : Hid (DB w b a len cap (.slice (some ⟨gk, 0, none⟩) k ck) k w3) := HD.out.only hbl hc3 ho3
      clear hc3 ho3
      obtain ⟨l, hll, hol⟩ := HD3.out.own
      have HLL : Hid (l.length = k) := hll
      have HO : Hid (Owb w3 w.heap.size (.slice (some ⟨gk, 0, none⟩) k ck) l) := hol
      have hsz := HD3.out.siz
      clear hll hol
      go_wp2_with (at_builtin; go_must (refine app_bool _ rfl _ _ rfl w.heap.size (.slice (some ⟨gk, 0, none⟩) k ck) l z rfl rfl HO.out hsz (by rw [HLL.out]; omega) ?_; intro g5 cp5 w5 ho5 hk5 hg5; have HD5 : Hid (DB w b a len cap (.slice (some ⟨g5, 0, none⟩) (l.length + 1) cp5) (k + 1) w5) := HD3.out.next hbl HLO.out hk5 (by rw [List.length_append, HLL.out]; rfl) ho5; clear ho5 hk5 hg5))
      go_roundw
      case rel => exact ⟨k + 1, _, _, by omega, by go_num, by rw [HLL.out], HD5.out⟩
      case measure => simp [intOf]; omega
    · have hkn : k = n := by omega
      subst hkn
      have hlz : ¬ (k : Int) < (k : Int) := by omega
      go_wp2
      go_ret
      obtain ⟨l, hl, ho⟩ := HD.out.own
      first | exact ⟨_, _, l, rfl, hl, HD.out, ho⟩ | exact ⟨_, _, rfl, l, hl, HD.out, ho⟩

structure Dm (m : Mc) (n : Nat) (F : Nat → Bool) : Prop where
  n6 : n ≤ 6
  is : ∃ (row : List Bool) (room : Int), m = startM row (n : Int) (bs (tab n F)) room ∧ row.length = n ∧ 0 ≤ room ∧ room ≤ 20
theorem Dm.ok {m : Mc} {n : Nat} {F : Nat → Bool} (h : Dm m n F) : Mok m := by
  obtain ⟨row, room, rfl, hl, h0, h1⟩ := h.is
  have h6 := h.n6
  refine ⟨by rw [show tl (startM row (n : Int) (bs (tab n F)) room).S = tab n F from Ss1.tl_bs _]; exact tab_tok F (by omega), ?_, ⟨h0, ?_⟩, ?_, ?_, ⟨?_, ?_⟩, ?_, ⟨?_, ?_⟩, ⟨?_, ?_⟩, ⟨?_, ?_⟩, ?_, ?_, ?_⟩ <;> simp only [startM, List.length_nil]
  · rw [hl]
  · omega
  · simpa using h0
  · omega
  · omega
  · omega
  · intro h; cases h
  · omega
  · omega
  · omega
  · omega
  · omega
  · omega
  · intro x hx; cases hx
  · intro x hx; cases hx
  · intro i j hi; cases hi

set_option maxRecDepth 100000 in
set_option maxHeartbeats 8000000 in
theorem start (w : World) (b : Nat) (a : Option Addr) (len cap : Nat) (hc : Cur w b a len cap) :
    Calls Tryz.prog 24 #[.pointer (some ⟨b, 0, none⟩)] w fun e w' => (∃ (n : Nat) (F : Nat → Bool) (m : Mc) (g c : Nat), e = .returned (mval m (some ⟨g, 0, none⟩) none none c 0 0) ∧ Dm m n F ∧ (∃ B U, w.heap.size ≤ B ∧ BoolsIn w' B U (some ⟨g, 0, none⟩) m.row) ∧ m.vals = [] ∧ m.memo = []) ∧ Cur w' b a len cap ∧ Only b w w' := by
  have hbl := hc.lt
  obtain ⟨W0, hW0⟩ : ∃ W, W = w.alloc (.cells #[.slice none 0 0, .int .i64 0, .string ⟨#[]⟩, .int .i64 0, .slice none 0 0, .int .i64 0, .bool false, .int .i64 0, .int .i64 0, .int .i64 0, .slice none 0 0] 30) := ⟨_, rfl⟩
  have HE0 : Hid (w.alloc (.cells #[.slice none 0 0, .int .i64 0, .string ⟨#[]⟩, .int .i64 0, .slice none 0 0, .int .i64 0, .bool false, .int .i64 0, .int .i64 0, .int .i64 0, .slice none 0 0] 30) = W0) := hW0.symm
  have HC0 : Hid (Cur W0 b a len cap) := by rw [hW0]; exact hc.alloc _
  have HO0 : Hid (Only b w W0) := by rw [hW0]; exact (Only.refl b w).alloc _
  have HM0 : Hid (Mf W0 w.heap.size [.slice none 0 0, .int .i64 0, .string ⟨#[]⟩, .int .i64 0, .slice none 0 0, .int .i64 0, .bool false, .int .i64 0, .int .i64 0, .int .i64 0, .slice none 0 0]) := by rw [hW0]; exact Mf.made _ _ _
  have hc0 : Bytes w a len := hc.bytes
  clear hW0 hc
  go_enter Tryz.func24, Tryz.ntmps24
  go_wp2_with fail
  rw [HE0.out]
  clear HE0
  refine (Dr1.below _ b a len cap 7 (by omega) (by omega) HC0.out).mono ?_
  rintro e w1 ⟨⟨x, rfl, hx0, hx1⟩, hc1, ho1⟩
  obtain ⟨n, rfl⟩ := Int.eq_ofNat_of_zero_le hx0
  have hn : n ≤ 6 := by omega
  have HC1 : Hid (Cur w1 b a len cap) := hc1
  have HO1 : Hid (Only b w w1) := HO0.out.trans ho1
  have HM1 : Hid (Mf w1 w.heap.size [.slice none 0 0, .int .i64 0, .string ⟨#[]⟩, .int .i64 0, .slice none 0 0, .int .i64 0, .bool false, .int .i64 0, .int .i64 0, .int .i64 0, .slice none 0 0]) := HM0.out.kept (kept_of_only ho1) (fun h => by have h' : w.heap.size = b := h; omega)
  clear hc1 ho1 HC0 HO0 HM0 hx0 hx1
  go_wp2_with fail
  refine (rowS _ b a len cap n hn HC1.out).mono ?_
  rintro e w2 ⟨g, c, row, rfl, hrl, hdb, hob⟩
  have HC2 : Hid (Cur w2 b a len cap) := hdb.cur
  have HO2 : Hid (Only b w w2) := HO1.out.trans hdb.onl
  have HM2 : Hid (Mf w2 w.heap.size [.slice none 0 0, .int .i64 0, .string ⟨#[]⟩, .int .i64 0, .slice none 0 0, .int .i64 0, .bool false, .int .i64 0, .int .i64 0, .int .i64 0, .slice none 0 0]) := HM1.out.kept (kept_of_only hdb.onl) (fun h => by have h' : w.heap.size = b := h; omega)
  have HRW : Hid (Owb w2 w1.heap.size (.slice (some ⟨g, 0, none⟩) n c) row) := hob
  have HRL : Hid (row.length = n) := hrl
  have hbw1 : b < w1.heap.size := HC1.out.lt
  clear hdb hob hrl HC1 HO1 HM1
  go_wp2_with fail
  refine (Tdw.l06Table _ b a len cap n hn HC2.out).mono ?_
  rintro e w3 ⟨⟨F, rfl⟩, hc3, ho3⟩
  have HC3 : Hid (Cur w3 b a len cap) := hc3
  have HO3 : Hid (Only b w w3) := HO2.out.trans ho3
  have HM3 : Hid (Mf w3 w.heap.size [.slice none 0 0, .int .i64 0, .string ⟨#[]⟩, .int .i64 0, .slice none 0 0, .int .i64 0, .bool false, .int .i64 0, .int .i64 0, .int .i64 0, .slice none 0 0]) := HM2.out.kept (kept_of_only ho3) (fun h => by have h' : w.heap.size = b := h; omega)
  have HR3 : Hid (Owb w3 w1.heap.size (.slice (some ⟨g, 0, none⟩) n c) row) := HRW.out.kept (kept_of_only ho3) (fun i hi e => by have := (HRW.out.lt i hi).1; have e' : i = b := e; omega)
  clear hc3 ho3 HC2 HO2 HM2 HRW
  go_wp2_with fail
  refine (pickP w3 b a len cap _ _ 4 (fun x => 0 ≤ x ∧ x ≤ 20) (by omega) (by omega) (fun i hi => by
    rcases (show i = 0 ∨ i = 1 ∨ i = 2 ∨ i = 3 by omega) with h | h | h | h <;> subst h <;> exact ⟨_, rfl, by omega, by omega⟩) HC3.out).mono ?_
  rintro e w4 ⟨⟨room, rfl, hr0, hr1⟩, hc4, ho4⟩
  have HC4 : Hid (Cur w4 b a len cap) := hc4
  have HO4 : Hid (Only b w w4) := HO3.out.trans ho4
  have HM4 : Hid (Mf w4 w.heap.size [.slice none 0 0, .int .i64 0, .string ⟨#[]⟩, .int .i64 0, .slice none 0 0, .int .i64 0, .bool false, .int .i64 0, .int .i64 0, .int .i64 0, .slice none 0 0]) := HM3.out.kept (kept_of_only ho4) (fun h => by have h' : w.heap.size = b := h; omega)
  have hR4 : Owb w4 w1.heap.size (.slice (some ⟨g, 0, none⟩) n c) row := HR3.out.kept (kept_of_only ho4) (fun i hi e => by have := (HR3.out.lt i hi).1; have e' : i = b := e; omega)
  have HB4 : Hid (Bools w4 (some ⟨g, 0, none⟩) row) := by
    obtain ⟨a9, c9, e9, h9⟩ := hR4.form
    cases e9
    exact Nd6.WBools.plain h9
  clear hc4 ho4 HC3 HO3 HM3 HR3 hR4
  have htok : tokB (n : Int) (tl (bs (tab n F))) = true := by rw [show tl (bs (tab n F)) = tab n F from Ss1.tl_bs _]; exact tab_tok F (by omega)
  have hsz : (bs (tab n F)).size ≤ 1048576 := by
    rw [bs_size, tab_length]
    have : 2 ^ n ≤ 2 ^ 6 := Nat.pow_le_pow_right (by omega) hn
    omega
  have HST : Hid _ := sStart1 g 0 c row (n : Int) (bs (tab n F)) room w4 hsz (by rw [HRL.out]; omega) HB4.out ⟨⟨htok, by rw [HRL.out]⟩, hr0, by omega⟩
  have HDM : Hid (Dm (startM row (n : Int) (bs (tab n F)) room) n F) := ⟨hn, row, room, rfl, HRL.out, hr0, hr1⟩
  rw [HRL.out] at HST
  clear htok hsz
  generalize bs (tab n F) = S at *
  obtain ⟨m, hm⟩ : ∃ m, m = startM row (n : Int) S room := ⟨_, rfl⟩
  have HV : Hid (m.vals = [] ∧ m.memo = [] ∧ m.row = row) := by rw [hm]; exact ⟨rfl, rfl, rfl⟩
  rw [← hm] at HST HDM
  clear hm
  have hbw4 : b < w4.heap.size := HC4.out.lt
  have hrw4 : w.heap.size < w4.heap.size := HM4.out.lt (by simp)
  go_wp2_with fail
  refine Calls.mono HST.out ?_
  rintro e w5 ⟨g5, c5, rfl, hbi, hb5⟩
  have HC5 : Hid (Cur w5 b a len cap) := curB HC4.out hb5
  have HO5 : Hid (Only b w w5) := HO4.out.trans (onlyB hb5)
  have HM5 : Hid (Mf w5 w.heap.size [.slice none 0 0, .int .i64 0, .string ⟨#[]⟩, .int .i64 0, .slice none 0 0, .int .i64 0, .bool false, .int .i64 0, .int .i64 0, .int .i64 0, .slice none 0 0]) := HM4.out.below hb5
  have HBI : Hid (BoolsIn w5 w4.heap.size w5.heap.size (some ⟨g5, 0, none⟩) row) := hbi
  have hs5 : w4.heap.size ≤ w5.heap.size := hb5.size
  clear hbi hb5 HC4 HO4 HM4 HB4 HST
  go_upto_region 4 with fail
  obtain ⟨y, hy⟩ : ∃ y, y = w5.alloc (.cells #[.slice (some ⟨g5, 0, none⟩) m.row.length c5, .int .i64 m.N, .string m.S, .int .i64 m.room, .slice none m.vals.length 0, .int .i64 m.ret, .bool m.over, .int .i64 m.steps, .int .i64 m.looks, .int .i64 m.hits, .slice none m.memo.length 0] 30) := ⟨_, rfl⟩
  obtain ⟨q, hq⟩ : ∃ q, q = w5.heap.size := ⟨_, rfl⟩
  have hby : Below w5.heap.size w5 y := by rw [hy]; exact (Below.refl _ _).alloc (Nat.le_refl _) _
  have HQ : Hid (Mb y q m (some ⟨g5, 0, none⟩) none none c5 0 0) := by rw [hy, hq]; exact Mb.made _ _ _ _ _ _ _ _ _
  rw [← hy, ← hq]
  have hqw : w.heap.size < q := by omega
  have HC6 : Hid (Cur y b a len cap) := curB HC5.out hby
  have HO6 : Hid (Only b w y) := HO5.out.trans (onlyB hby)
  have HM6 : Hid (Mf y w.heap.size [.slice none 0 0, .int .i64 0, .string ⟨#[]⟩, .int .i64 0, .slice none 0 0, .int .i64 0, .bool false, .int .i64 0, .int .i64 0, .int .i64 0, .slice none 0 0]) := HM5.out.below hby
  have HBI6 : Hid (BoolsIn y w4.heap.size w5.heap.size (some ⟨g5, 0, none⟩) row) := HBI.out.below hby
  clear hy hq hby HC5 HO5 HM5 HBI
  obtain ⟨q0, q1, q2, q3, q4, q5, q6, q7, q8, q9, q10⟩ := HQ.out
  obtain ⟨r0, r1, r2, r3, r4, r5, r6, r7, r8, r9, r10, f0, f1, f2, f3, f4, f5, f6, f7, f8, f9, f10⟩ := HM6.out.all
  go_wp2
  clear q0 r0 f0 q1 r1 f1 q2 r2 f2 q3 r3 f3 q4 r4 f4 q5 r5 f5 q6 r6 f6 q7 r7 f7 q8 r8 f8 q9 r9 f9 q10 r10 f10
  obtain ⟨WF, hWF⟩ : ∃ WF, WF = (((((((((((y).setCell ⟨w.heap.size, 0, none⟩ (.slice (some ⟨g5, 0, none⟩) m.row.length c5)).setCell ⟨w.heap.size, 1, none⟩ (.int .i64 m.N)).setCell ⟨w.heap.size, 2, none⟩ (.string m.S)).setCell ⟨w.heap.size, 3, none⟩ (.int .i64 m.room)).setCell ⟨w.heap.size, 4, none⟩ (.slice none m.vals.length 0)).setCell ⟨w.heap.size, 5, none⟩ (.int .i64 m.ret)).setCell ⟨w.heap.size, 6, none⟩ (.bool m.over)).setCell ⟨w.heap.size, 7, none⟩ (.int .i64 m.steps)).setCell ⟨w.heap.size, 8, none⟩ (.int .i64 m.looks)).setCell ⟨w.heap.size, 9, none⟩ (.int .i64 m.hits)).setCell ⟨w.heap.size, 10, none⟩ (.slice none m.memo.length 0) := ⟨_, rfl⟩
  rw [← hWF]
  have KF : Kept (fun k => k = w.heap.size) y WF := by
    rw [hWF]
    exact (((((((((((Kept.refl (fun k => k = w.heap.size) y).setCell (p := ⟨w.heap.size, 0, none⟩) rfl _).setCell (p := ⟨w.heap.size, 1, none⟩) rfl _).setCell (p := ⟨w.heap.size, 2, none⟩) rfl _).setCell (p := ⟨w.heap.size, 3, none⟩) rfl _).setCell (p := ⟨w.heap.size, 4, none⟩) rfl _).setCell (p := ⟨w.heap.size, 5, none⟩) rfl _).setCell (p := ⟨w.heap.size, 6, none⟩) rfl _).setCell (p := ⟨w.heap.size, 7, none⟩) rfl _).setCell (p := ⟨w.heap.size, 8, none⟩) rfl _).setCell (p := ⟨w.heap.size, 9, none⟩) rfl _).setCell (p := ⟨w.heap.size, 10, none⟩) rfl _
  have HF : Mf WF w.heap.size [.slice (some ⟨g5, 0, none⟩) m.row.length c5, .int .i64 m.N, .string m.S, .int .i64 m.room, .slice none m.vals.length 0, .int .i64 m.ret, .bool m.over, .int .i64 m.steps, .int .i64 m.looks, .int .i64 m.hits, .slice none m.memo.length 0] := by
    rw [hWF]
    exact (((((((((((HM6.out).set 0 (.slice (some ⟨g5, 0, none⟩) m.row.length c5)).set 1 (.int .i64 m.N)).set 2 (.string m.S)).set 3 (.int .i64 m.room)).set 4 (.slice none m.vals.length 0)).set 5 (.int .i64 m.ret)).set 6 (.bool m.over)).set 7 (.int .i64 m.steps)).set 8 (.int .i64 m.looks)).set 9 (.int .i64 m.hits)).set 10 (.slice none m.memo.length 0)
  obtain ⟨r0, r1, r2, r3, r4, r5, r6, r7, r8, r9, r10, f0, f1, f2, f3, f4, f5, f6, f7, f8, f9, f10⟩ := HF.all
  refine bodyPost_ret (v := mval m (some ⟨g5, 0, none⟩) none none c5 0 0) (by simp [results, Tryz.results24, go_sem, r0, r1, r2, r3, r4, r5, r6, r7, r8, r9, r10]) rfl ⟨⟨n, F, m, g5, c5, rfl, HDM.out, ?_⟩, ?_, ?_⟩
  · exact ⟨⟨w4.heap.size, w5.heap.size, by omega, by rw [HV.out.2.2]; exact HBI6.out.kept KF (fun k h1 h2 h3 => by have h4 : k = w.heap.size := h3; omega)⟩, HV.out.1, HV.out.2.1⟩
  · exact cur_kept HC6.out KF (fun h => by have h' : b = w.heap.size := h; omega) (by
      rcases low_of hc0 with h0 | h0
      · exact .inl h0
      · exact .inr fun x hx e => by have := h0 x hx; have e' : x.block = w.heap.size := e; omega)
  · exact ⟨KF.os.trans HO6.out.os, KF.tape.trans HO6.out.tape, KF.output.trans HO6.out.output, Nat.le_trans HO6.out.size KF.size, fun k hk hkb => (KF.block k (Nat.lt_of_lt_of_le hk HO6.out.size) (fun h => by have h' : k = w.heap.size := h; omega)).trans (HO6.out.block k hk hkb)⟩

end Go.Proofs.YtmjmnfegaoegjaaGreatDoor.Rd0

/- A machine that runs: what its memo's keys are. Plain facts. -/
namespace Go.Proofs.YtmjmnfegaoegjaaGreatDoor.Rdp
open Go.RowKit
open Ta1 Mm0 Mu6 Mu8 Mc0
open Qc0 (Sn)
open Mu5 (keepM)
open Tk0 (keyL)
open Ss0 (bs bs_size)
set_option linter.unusedVariables false

theorem keep_mem {room : Int} {l : List Sn} {k : ByteArray} {r : Int} {x : Sn} (h : x ∈ keepM room l k r) : x ∈ l ∨ x = ⟨k, r⟩ := by
  have h1 : ∀ x, x ∈ l ++ [(⟨k, r⟩ : Sn)] → x ∈ l ∨ x = ⟨k, r⟩ := fun x hx => by
    rcases List.mem_append.1 hx with e | e
    · exact .inl e
    · exact .inr (List.mem_singleton.1 e)
  unfold keepM at h
  split at h
  · split at h
    · exact h1 x (List.mem_of_mem_drop h)
    · exact h1 x h
  · exact .inl h
def Ky (n : Nat) (m : Mc) : Prop := ∀ x ∈ m.memo, ∃ (j : Nat) (G : Nat → Bool), j ≤ n ∧ x.k = bs (keyL j (tab j G))
structure Iv (n : Nat) (F : Nat → Bool) (row : List Bool) (room : Int) (m : Mc) : Prop where
  hN : m.N = (n : Int)
  hS : m.S = bs (tab n F)
  ok : Mok m
  row : m.row = row
  room : m.room = room
  keys : Ky n m
theorem step_ky {n : Nat} {F : Nat → Bool} {m : Mc} (h : Ky n m) : Ky n (stepM n F m) := by
  unfold stepM
  split
  · exact h
  · split
    · unfold Mu3.downM
      split
      · exact h
      · split
        · exact h
        · exact h
    · unfold upM
      split
      · exact h
      · split
        · exact h
        · intro x hx
          rcases keep_mem hx with e | e
          · exact h x e
          · rw [e]
            exact ⟨_, _, Nat.sub_le _ _, rfl⟩
theorem iv_run {n : Nat} {F : Nat → Bool} {row : List Bool} {room : Int} (k : Nat) : ∀ {m : Mc}, Iv n F row room m → Iv n F row room (runM n F k m) := by
  induction k with
  | zero => exact fun h => h
  | succ k ih =>
    intro m h
    by_cases e : m.over = true ∨ 1000000000 ≤ m.looks ∨ 1000000000 ≤ m.hits
    · rw [runM_stop e]; exact h
    · rw [runM_next e]
      obtain ⟨k1, k2, k3, k4, k5⟩ := step_ok (F := F) h.ok h.hN (by apply Classical.byContradiction; intro c; exact e (.inr (.inl (by omega)))) (by apply Classical.byContradiction; intro c; exact e (.inr (.inr (by omega))))
      exact ih ⟨k2.trans h.hN, k3.trans h.hS, k1, k4.trans h.row, k5.trans h.room, step_ky h.keys⟩
theorem key_le {j : Nat} (hj : j ≤ 12) (G : Nat → Bool) : (bs (keyL j (tab j G))).size ≤ 5000 := by
  have h2 := (p12 hj).2
  rw [bs_size]
  unfold keyL
  rw [List.length_append, List.length_cons, tab_length]
  have h3 := Tk0.dec_short hj
  rw [bs_size] at h3
  omega

end Go.Proofs.YtmjmnfegaoegjaaGreatDoor.Rdp
