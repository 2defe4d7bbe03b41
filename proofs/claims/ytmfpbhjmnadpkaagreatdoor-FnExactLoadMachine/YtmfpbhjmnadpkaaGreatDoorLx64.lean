/- The exact law of LoadMachine. -/
import Derived.Test.YtmfpbhjmnadpkaaGreatDoorZl12
import Derived.Test.YtmfpbhjmnadpkaaGreatDoorMk3
namespace Go.Proofs.YtmfpbhjmnadpkaaGreatDoor.Lx64
open Go.RowKit
open Nd0 (Kept Ints WInts IntsIn Ats lt_of_cell marks)
open Nd6 (Bools BoolsIn markB)
open Ap1 (WBools)
open Qc0 (Sn Sns WSns)
open Mm0 (Mc Mb Mr Mok mval)
open Mx0 (Mf eqMachine)
open Mw9 (OwSo)
open Mk2 (markS)
open Mk3 (Wm Ax anyAt lastM markMachine heldMachine)
open Ss0 (bs bs_size)
open Ss1 (tl tl_bs bs_tl tl_length)
open Zl0 (mc0)
open Zl1 (Ld)
open Zl2 (ldP ldM ld_same ldM_ok okL sv_mok)
open Zl11 (LmP iLoad)
open Zl12 (LsP sLoad)
open Zs7 (TabE)
set_option linter.unusedVariables false

theorem wb_mono {w : World} {B B' : Nat} {a : Option Addr} {l : List Bool} (h : WBools w B a l) (hB : B' ≤ B) : WBools w B' a l := by
  refine ⟨h.1, ?_⟩
  rcases h.2 with e | ⟨b, o, ha, h1, hc⟩
  · exact .inl e
  · exact .inr ⟨b, o, ha, by omega, hc⟩
theorem wi_mono {w : World} {B B' : Nat} {a : Option Addr} {l : List Int} (h : WInts w B a l) (hB : B' ≤ B) : WInts w B' a l := by
  refine ⟨h.1, ?_⟩
  rcases h.2 with e | ⟨b, o, ha, h1, hc⟩
  · exact .inl e
  · exact .inr ⟨b, o, ha, by omega, hc⟩
theorem ws_mono {w : World} {B B' : Nat} {a : Option Addr} {l : List Sn} (h : WSns w B a l) (hB : B' ≤ B) : WSns w B' a l := by
  refine ⟨h.1, ?_⟩
  rcases h.2 with e | ⟨b, o, ha, h1, hc⟩
  · exact .inl e
  · exact .inr ⟨b, o, ha, by omega, hc⟩
theorem ws_ge {w : World} {B : Nat} {a : Option Addr} {l : List Sn} (h : WSns w B a l) {k : Nat} (hk : Ats l.length a k) : B ≤ k := by
  obtain ⟨h0, x, hx, rfl⟩ := hk
  rcases h.2 with e | ⟨b, o, ha, h1, _⟩
  · omega
  · rw [ha] at hx; cases hx; exact h1

/-- The machine that both read, and whether there is one. -/
noncomputable def mOf (s : List UInt8) : Mc := (ldM s).getD mc0
noncomputable def okOf (s : List UInt8) : Bool := (ldM s).isSome
theorem lens (s : List UInt8) : (mOf s).row.length ≤ 1048576 ∧ (mOf s).vals.length ≤ 1048576 ∧ (mOf s).memo.length ≤ 1048576 := by
  unfold mOf
  cases h : ldM s with
  | none => exact ⟨Nat.zero_le _, Nat.zero_le _, Nat.zero_le _⟩
  | some m =>
    have h1 := ldM_ok h
    unfold okL at h1
    obtain ⟨h2, _⟩ := Bool.and_eq_true_iff.1 h1
    have h3 := (sv_mok h2).1
    obtain ⟨n, F, hn, hN, _⟩ := Ta1.tok_tab h3.tab
    have := h3.row
    have := h3.vals
    have := h3.memo
    have := h3.room
    show m.row.length ≤ _ ∧ m.vals.length ≤ _ ∧ m.memo.length ≤ _
    omega
/-- What the program's LoadMachine leaves. -/
def Pg (B : Nat) (M : Mc) (ok : Bool) (e : Ending) (w' : World) : Prop := ∃ ra va ma rc vc mc, e = .returned (.tuple #[mval M ra va ma rc vc mc, .bool ok]) ∧ Wm w' B M.row M.vals M.memo ra va ma ∧ Ax M.row.length M.vals.length M.memo.length ra va ma
theorem Pg.of {s : List UInt8} {B : Nat} {e : Ending} {w' : World} (h : LmP s B e w') : Pg B (mOf s) (okOf s) e w' := by
  unfold mOf okOf
  rw [← ld_same]
  cases hl : ldP s with
  | none =>
    refine ⟨none, none, none, 0, 0, 0, h.2 hl, ⟨⟨Nat.zero_le _, .inl rfl⟩, ⟨Nat.zero_le _, .inl rfl⟩, ⟨Nat.zero_le _, .inl rfl⟩⟩, ⟨fun k hk => ?_, fun k hk => ?_, fun k hk => ?_⟩⟩ <;> exact absurd hk.1 (by show ¬ 0 < 0; omega)
  | some m =>
    obtain ⟨q, ra, va, ma, rc, vc, mc, u1, u2, he, hq, hL⟩ := h.1 m hl
    obtain ⟨a, c, e1, hw, _⟩ := hL.memo.form
    have e2 : ma = a := by injection e1
    subst e2
    have h1 := hL.h1
    have h2 := hL.h2
    refine ⟨ra, va, ma, rc, vc, mc, he, ⟨wb_mono hL.row.wr (by omega), wi_mono hL.vals.wints (by omega), ws_mono hw (by omega)⟩, fun k hk hk2 => ?_, fun k hk hk2 => ?_, fun k hk hk2 => ?_⟩
    · have := hL.row.ats hk; have := hL.vals.ats hk2; omega
    · have := hL.row.ats hk; have := ws_ge hw hk2; omega
    · have := hL.vals.ats hk; have := ws_ge hw hk2; omega
/-- What the model's LoadMachine leaves. -/
def Sg (M : Mc) (ok : Bool) (e : Ending) (w' : World) : Prop := ∃ ra va ma rc vc mc, e = .returned (.tuple #[mval M ra va ma rc vc mc, .bool ok]) ∧ Mr w' M ra va ma
theorem Sg.of {s : List UInt8} {e : Ending} {w' : World} (h : LsP s e w') : Sg (mOf s) (okOf s) e w' := by
  unfold mOf okOf
  cases hl : ldM s with
  | none => exact ⟨none, none, none, 0, 0, 0, h.2 hl, ⟨Nat.zero_le _, .inl rfl⟩, ⟨Nat.zero_le _, .inl rfl⟩, ⟨Nat.zero_le _, .inl rfl⟩⟩
  | some m => exact h.1 m hl

set_option maxRecDepth 100000 in
set_option maxHeartbeats 4000000 in
theorem exLoad (w : World) (S : ByteArray) (hS : S.size ≤ maxLen) (hT : TabE w) :
    Calls Tryz.prog 7 #[.string S] w fun e w' => e = .returned (.bool true) ∧ Below w.heap.size w w' := by
  by_cases hs : (1048576 : Int) < (S.size : Int)
  · clear hT
    go_enter Tryz.func7, Tryz.ntmps7
    go_wp2
    go_ret
    exact ⟨rfl, Below.refl _ _⟩
  have hSl : (tl S).length ≤ 1048576 := by rw [tl_length]; omega
  have hSb : bs (tl S) = S := bs_tl S
  have HSP : Hid (∀ W, Calls Tryz.prog 24 #[.string S] W fun e w' => Sg (mOf (tl S)) (okOf (tl S)) e w' ∧ Below W.heap.size W w') := fun W => by
    have := (sLoad (tl S) W hSl).mono (R' := fun e w' => Sg (mOf (tl S)) (okOf (tl S)) e w' ∧ Below W.heap.size W w') fun e w' h => ⟨Sg.of h.1, h.2⟩
    rw [hSb] at this
    exact this
  have HIM : Hid (∀ W, TabE W → Calls Tryz.prog 20 #[.string S] W fun e w' => Pg W.heap.size (mOf (tl S)) (okOf (tl S)) e w' ∧ Below W.heap.size W w') := fun W hW => by
    have := (iLoad (tl S) W hSl hW).mono (R' := fun e w' => Pg W.heap.size (mOf (tl S)) (okOf (tl S)) e w' ∧ Below W.heap.size W w') fun e w' h => ⟨Pg.of h.1, h.2⟩
    rw [hSb] at this
    exact this
  obtain ⟨hlr, hlv, hlm⟩ := lens (tl S)
  obtain ⟨M, hM⟩ : ∃ M, M = mOf (tl S) := ⟨_, rfl⟩
  obtain ⟨ok, hok⟩ : ∃ b, b = okOf (tl S) := ⟨_, rfl⟩
  rw [← hM] at hlr hlv hlm HSP HIM
  rw [← hok] at HSP HIM
  have HTT : Hid (TabE w) := hT
  have hoo : (ok != ok) = false := by cases ok <;> rfl
  obtain ⟨z, hz⟩ : ∃ z : Int, z = (lastM M : Int) := ⟨_, rfl⟩
  have hz0 : ¬ z < 0 := by omega
  have HMK : Hid (∀ (W : World) (ra va ma : Option Addr) (rc vc mc B : Nat), Wm W B M.row M.vals M.memo ra va ma → Ax M.row.length M.vals.length M.memo.length ra va ma → Calls Tryz.prog 28 #[mval M ra va ma rc vc mc, .int .i64 1] W fun e w' => e = .returned (.int .i64 z) ∧ Wm w' B (markB M.row.length 1) (marks M.vals.length ((1 + M.row.length : Nat) : Int)) (markS M.memo.length (1 + M.row.length + M.vals.length)) ra va ma ∧ Kept (anyAt M.row.length M.vals.length M.memo.length ra va ma) W w') := fun W ra va ma rc vc mc B h h2 => by rw [hz]; exact markMachine W M ra va ma rc vc mc B h h2 hlr hlv hlm
  have HHD : Hid (∀ (W : World) (ra va ma : Option Addr) (rc vc mc B : Nat), Wm W B (markB M.row.length 1) (marks M.vals.length ((1 + M.row.length : Nat) : Int)) (markS M.memo.length (1 + M.row.length + M.vals.length)) ra va ma → Calls Tryz.prog 29 #[mval M ra va ma rc vc mc, .int .i64 1] W fun e w' => e = .returned (.int .i64 z) ∧ Below W.heap.size W w') := fun W ra va ma rc vc mc B h => by rw [hz]; exact heldMachine W M ra va ma rc vc mc (Nd6.WBools.plain h.row) h.vals.ints h.memo.plain hlr hlv hlm
  clear hM hok hT hz hSl hSb hlr hlv hlm hS
  go_enter Tryz.func7, Tryz.ntmps7
  go_wp2_with fail
  refine (HSP.out _).mono ?_
  rintro e w1 ⟨⟨wra, wva, wma, wrc, wvc, wmc, rfl, hmr⟩, hb⟩
  have HB1 : Hid (Below w.heap.size w w1) := hb
  have HMR : Hid (Mr w1 M wra wva wma) := hmr
  clear hb hmr HSP
  go_upto_region 4 with fail
  obtain ⟨y2, hy⟩ : ∃ y, y = w1.alloc (.cells #[.slice wra M.row.length wrc, .int .i64 M.N, .string M.S, .int .i64 M.room, .slice wva M.vals.length wvc, .int .i64 M.ret, .bool M.over, .int .i64 M.steps, .int .i64 M.looks, .int .i64 M.hits, .slice wma M.memo.length wmc] 30) := ⟨_, rfl⟩
  obtain ⟨qw, hq⟩ : ∃ q, q = w1.heap.size := ⟨_, rfl⟩
  rw [← hy, ← hq]
  have HQW : Hid (Mb y2 qw M wra wva wma wrc wvc wmc) := by rw [hy, hq]; exact Mb.made _ _ _ _ _ _ _ _ _
  have hb : Below w1.heap.size w1 y2 := by rw [hy]; exact (Below.refl _ _).alloc (Nat.le_refl _) _
  have HW2 : Hid (Below w1.heap.size w1 y2) := hb
  have HB2 : Hid (Below w.heap.size w y2) := HB1.out.trans (hb.mono HB1.out.size)
  clear hy hq hb
  go_wp2_with fail
  refine (HIM.out _ (HTT.out.below HB2.out)).mono ?_
  rintro e w3 ⟨⟨gra, gva, gma, grc, gvc, gmc, rfl, hwm, hax⟩, hb⟩
  have HX3 : Hid (Below y2.heap.size y2 w3) := hb
  have HG3 : Hid (Wm w3 y2.heap.size M.row M.vals M.memo gra gva gma) := hwm
  have HAX : Hid (Ax M.row.length M.vals.length M.memo.length gra gva gma) := hax
  have HRA : Hid (∀ b, anyAt M.row.length M.vals.length M.memo.length gra gva gma b → y2.heap.size ≤ b ∧ b < w3.heap.size) := fun b h => hwm.ge h
  clear hb hwm hax
  go_upto_region 5 with fail
  obtain ⟨y4, hy⟩ : ∃ y, y = w3.alloc (.cells #[.slice gra M.row.length grc, .int .i64 M.N, .string M.S, .int .i64 M.room, .slice gva M.vals.length gvc, .int .i64 M.ret, .bool M.over, .int .i64 M.steps, .int .i64 M.looks, .int .i64 M.hits, .slice gma M.memo.length gmc] 30) := ⟨_, rfl⟩
  obtain ⟨qg, hq⟩ : ∃ q, q = w3.heap.size := ⟨_, rfl⟩
  rw [← hy, ← hq]
  have HQG : Hid (Mb y4 qg M gra gva gma grc gvc gmc) := by rw [hy, hq]; exact Mb.made _ _ _ _ _ _ _ _ _
  have HQQ : Hid (qg = w3.heap.size) := hq
  have hb : Below w3.heap.size w3 y4 := by rw [hy]; exact (Below.refl _ _).alloc (Nat.le_refl _) _
  have HX4 : Hid (Below y2.heap.size y2 y4) := HX3.out.trans (hb.mono HX3.out.size)
  have HG4 : Hid (Wm y4 y2.heap.size M.row M.vals M.memo gra gva gma) := HG3.out.below hb
  clear hy hq hb HX3 HG3
  obtain ⟨a0, a1, a2, a3, a4, a5, a6, a7, a8, a9, a10⟩ := HQG.out
  obtain ⟨b0, b1, b2, b3, b4, b5, b6, b7, b8, b9, b10⟩ := HQW.out.below HX4.out
  go_wp2_with fail
  clear a0 a1 a2 a3 a4 a5 a6 a7 a8 a9 a10 b0 b1 b2 b3 b4 b5 b6 b7 b8 b9 b10
  refine (eqMachine _ M _ _ _ _ _ _ _ _ _ _ _ _ HG4.out.mr (HMR.out.below (HW2.out.trans (HX4.out.mono HW2.out.size)))).mono ?_
  rintro e y5 ⟨rfl, hb⟩
  have HX5 : Hid (Below y2.heap.size y2 y5) := HX4.out.trans (hb.mono HX4.out.size)
  have HG5 : Hid (Wm y5 y2.heap.size M.row M.vals M.memo gra gva gma) := HG4.out.below hb
  have HQ5 : Hid (Mb y5 qg M gra gva gma grc gvc gmc) := HQG.out.below hb
  clear hb HX4 HG4 HQG
  obtain ⟨a0, a1, a2, a3, a4, a5, a6, a7, a8, a9, a10⟩ := HQ5.out
  go_wp2_with fail
  clear a0 a1 a2 a3 a4 a5 a6 a7 a8 a9 a10
  refine (HMK.out _ _ _ _ _ _ _ _ HG5.out HAX.out).mono ?_
  rintro e y6 ⟨rfl, hwm, hk⟩
  have HX6 : Hid (Below y2.heap.size y2 y6) := HX5.out.trans (hk.below (fun b hb => (HRA.out b hb).1) HX5.out.size)
  have HG6 : Hid (Wm y6 y2.heap.size (markB M.row.length 1) (marks M.vals.length ((1 + M.row.length : Nat) : Int)) (markS M.memo.length (1 + M.row.length + M.vals.length)) gra gva gma) := hwm
  have HQ6 : Hid (Mb y6 qg M gra gva gma grc gvc gmc) := HQ5.out.kept hk (fun h => by have := (HRA.out _ h).2; have := HQQ.out; omega)
  clear hwm hk HX5 HG5 HQ5 HMK
  obtain ⟨a0, a1, a2, a3, a4, a5, a6, a7, a8, a9, a10⟩ := HQ6.out
  go_wp2_with fail
  clear a0 a1 a2 a3 a4 a5 a6 a7 a8 a9 a10
  refine (HHD.out _ _ _ _ _ _ _ _ HG6.out).mono ?_
  rintro e y7 ⟨rfl, hb⟩
  have HX7 : Hid (Below y2.heap.size y2 y7) := HX6.out.trans (hb.mono HX6.out.size)
  have HG7 : Hid (Wm y7 y2.heap.size (markB M.row.length 1) (marks M.vals.length ((1 + M.row.length : Nat) : Int)) (markS M.memo.length (1 + M.row.length + M.vals.length)) gra gva gma) := HG6.out.below hb
  have HQ7 : Hid (Mb y7 qg M gra gva gma grc gvc gmc) := HQ6.out.below hb
  have HB7 : Hid (Below w.heap.size w y7) := HB2.out.trans (HX7.out.mono HB2.out.size)
  clear hb HX6 HG6 HQ6
  go_wp2_with fail
  refine (HIM.out _ (HTT.out.below HB7.out)).mono ?_
  rintro e w8 ⟨⟨hra, hva, hma, hrc, hvc, hmc, rfl, hwm, hax⟩, hb⟩
  have HX8 : Hid (Below y2.heap.size y2 w8) := HX7.out.trans (hb.mono HX7.out.size)
  have HG8 : Hid (Wm w8 y2.heap.size (markB M.row.length 1) (marks M.vals.length ((1 + M.row.length : Nat) : Int)) (markS M.memo.length (1 + M.row.length + M.vals.length)) gra gva gma) := HG7.out.below hb
  have HQ8 : Hid (Mb w8 qg M gra gva gma grc gvc gmc) := HQ7.out.below hb
  have HH8 : Hid (Mr w8 M hra hva hma) := hwm.mr
  clear hb hwm hax HX7 HG7 HQ7 HIM
  go_upto_region 16 with fail
  obtain ⟨y9, hy⟩ : ∃ y, y = w8.alloc (.cells #[.slice hra M.row.length hrc, .int .i64 M.N, .string M.S, .int .i64 M.room, .slice hva M.vals.length hvc, .int .i64 M.ret, .bool M.over, .int .i64 M.steps, .int .i64 M.looks, .int .i64 M.hits, .slice hma M.memo.length hmc] 30) := ⟨_, rfl⟩
  obtain ⟨qh, hq⟩ : ∃ q, q = w8.heap.size := ⟨_, rfl⟩
  rw [← hy, ← hq]
  have HQH : Hid (Mb y9 qh M hra hva hma hrc hvc hmc) := by rw [hy, hq]; exact Mb.made _ _ _ _ _ _ _ _ _
  have hb : Below w8.heap.size w8 y9 := by rw [hy]; exact (Below.refl _ _).alloc (Nat.le_refl _) _
  have HX9 : Hid (Below y2.heap.size y2 y9) := HX8.out.trans (hb.mono HX8.out.size)
  have HG9 : Hid (Wm y9 y2.heap.size (markB M.row.length 1) (marks M.vals.length ((1 + M.row.length : Nat) : Int)) (markS M.memo.length (1 + M.row.length + M.vals.length)) gra gva gma) := HG8.out.below hb
  have HQ9 : Hid (Mb y9 qg M gra gva gma grc gvc gmc) := HQ8.out.below hb
  have HH9 : Hid (Mr y9 M hra hva hma) := HH8.out.below hb
  clear hy hq hb HX8 HG8 HQ8 HH8
  obtain ⟨a0, a1, a2, a3, a4, a5, a6, a7, a8, a9, a10⟩ := HQH.out
  obtain ⟨b0, b1, b2, b3, b4, b5, b6, b7, b8, b9, b10⟩ := HQW.out.below HX9.out
  go_wp2_with fail
  clear a0 a1 a2 a3 a4 a5 a6 a7 a8 a9 a10 b0 b1 b2 b3 b4 b5 b6 b7 b8 b9 b10
  refine (eqMachine _ M _ _ _ _ _ _ _ _ _ _ _ _ HH9.out (HMR.out.below (HW2.out.trans (HX9.out.mono HW2.out.size)))).mono ?_
  rintro e y10 ⟨rfl, hb⟩
  have HX10 : Hid (Below y2.heap.size y2 y10) := HX9.out.trans (hb.mono HX9.out.size)
  have HG10 : Hid (Wm y10 y2.heap.size (markB M.row.length 1) (marks M.vals.length ((1 + M.row.length : Nat) : Int)) (markS M.memo.length (1 + M.row.length + M.vals.length)) gra gva gma) := HG9.out.below hb
  have HQ10 : Hid (Mb y10 qg M gra gva gma grc gvc gmc) := HQ9.out.below hb
  clear hb HX9 HG9 HQ9 HH9 HQH
  obtain ⟨a0, a1, a2, a3, a4, a5, a6, a7, a8, a9, a10⟩ := HQ10.out
  go_wp2_with fail
  clear a0 a1 a2 a3 a4 a5 a6 a7 a8 a9 a10
  refine (HHD.out _ _ _ _ _ _ _ _ HG10.out).mono ?_
  rintro e y11 ⟨rfl, hb⟩
  have HB11 : Hid (Below w.heap.size w y11) := HB2.out.trans ((HX10.out.trans (hb.mono HX10.out.size)).mono HB2.out.size)
  clear hb
  go_wp2
  go_ret
  exact ⟨rfl, HB11.out⟩
end Go.Proofs.YtmfpbhjmnadpkaaGreatDoor.Lx64
