/- A machine that is the zero value: l13Bare of the model, isNoMachine of the program. Written by tools/mkjb2.py. -/
import Derived.Test.YtmhambifbimndaaMi4
namespace Go.Proofs.Ytmhambifbimndaa.Jb2
open Go.RowKit
open Mm0 Mm2 Mx0 Mi3
open Tc2 (ret_bool)
set_option linter.unusedVariables false

/-- The zero value. -/
structure Bare (m : Mc) : Prop where
  row : m.row = []
  N : m.N = 0
  S : m.S = ⟨#[]⟩
  room : m.room = 0
  vals : m.vals = []
  ret : m.ret = 0
  over : m.over = false
  steps : m.steps = 0
  looks : m.looks = 0
  hits : m.hits = 0
  memo : m.memo = []
open Classical in
noncomputable def bareB (m : Mc) : Bool := decide (Bare m)
theorem bare_no {m : Mc} (h : ¬ Bare m) : bareB m = false := by unfold bareB; simp [h]
theorem bare_yes : bareB ⟨[], 0, ⟨#[]⟩, 0, [], 0, false, 0, 0, 0, []⟩ = true := by unfold bareB; simp; exact ⟨rfl, rfl, rfl, rfl, rfl, rfl, rfl, rfl, rfl, rfl, rfl⟩

set_option maxRecDepth 100000 in
set_option maxHeartbeats 8000000 in
theorem sBare (m : Mc) (ra va ma : Option Addr) (rc vc mc : Nat) (w : World) (hR : Mr w m ra va ma) :
    Calls Try.prog 14 #[mval m ra va ma rc vc mc] w fun e w' => e = .returned (.bool (bareB m)) ∧ Below w.heap.size w w' := by
  have hl1 := hR.row.1
  have hl2 := hR.vals.1
  have hl3 := hR.memo.1
  unfold maxLen at hl1 hl2 hl3
  clear hR
  obtain ⟨row, N, S, room, vals, ret, over, steps, looks, hits, memo⟩ := m
  dsimp only [mval] at hl1 hl2 hl3 ⊢
  by_cases h : row = []
  rotate_left
  · have hF : bareB ⟨row, N, S, room, vals, ret, over, steps, looks, hits, memo⟩ = false := bare_no (fun k => h k.row)
    have hb : ((row.length : Int) == 0) = false := beq_eq_false_iff_ne.2 (fun e => h (List.length_eq_zero_iff.1 (by omega)))
    clear h
    have HF : Hid (bareB _ = false) := hF
    clear hF
    have HB0 : Hid (Below w.heap.size w (w.alloc (.cells #[.slice ra row.length rc, .int .i64 N, .string S, .int .i64 room, .slice va vals.length vc, .int .i64 ret, .bool over, .int .i64 steps, .int .i64 looks, .int .i64 hits, .slice ma memo.length mc] 36))) := (Below.refl _ _).alloc (Nat.le_refl _) _
    go_enter Try.func14, Try.ntmps14
    go_wp2
    go_ret
    exact ⟨ret_bool HF.out.symm, HB0.out⟩
  subst h
  by_cases h : N = 0
  rotate_left
  · have hF : bareB ⟨[], N, S, room, vals, ret, over, steps, looks, hits, memo⟩ = false := bare_no (fun k => h k.N)
    have hb : (N == 0) = false := beq_eq_false_iff_ne.2 h
    clear h
    have HF : Hid (bareB _ = false) := hF
    clear hF
    have HB0 : Hid (Below w.heap.size w (w.alloc (.cells #[.slice ra 0 rc, .int .i64 N, .string S, .int .i64 room, .slice va vals.length vc, .int .i64 ret, .bool over, .int .i64 steps, .int .i64 looks, .int .i64 hits, .slice ma memo.length mc] 36))) := (Below.refl _ _).alloc (Nat.le_refl _) _
    go_enter Try.func14, Try.ntmps14
    go_wp2
    go_ret
    exact ⟨ret_bool HF.out.symm, HB0.out⟩
  subst h
  by_cases h : S = ⟨#[]⟩
  rotate_left
  · have hF : bareB ⟨[], 0, S, room, vals, ret, over, steps, looks, hits, memo⟩ = false := bare_no (fun k => h k.S)
    have hb2 : (S.toList == ByteArray.toList ⟨#[]⟩) = false := Ss1.eqb_false fun k => h (Ss1.tl_inj k)
    have hb : (S.toList == []) = false := Ss1.eql_false fun k => h (Ss1.tl_inj (T := ⟨#[]⟩) (k.trans (by rfl)))
    clear h
    have HF : Hid (bareB _ = false) := hF
    clear hF
    have HB0 : Hid (Below w.heap.size w (w.alloc (.cells #[.slice ra 0 rc, .int .i64 0, .string S, .int .i64 room, .slice va vals.length vc, .int .i64 ret, .bool over, .int .i64 steps, .int .i64 looks, .int .i64 hits, .slice ma memo.length mc] 36))) := (Below.refl _ _).alloc (Nat.le_refl _) _
    go_enter Try.func14, Try.ntmps14
    go_wp2
    go_ret
    exact ⟨ret_bool HF.out.symm, HB0.out⟩
  subst h
  by_cases h : room = 0
  rotate_left
  · have hF : bareB ⟨[], 0, ⟨#[]⟩, room, vals, ret, over, steps, looks, hits, memo⟩ = false := bare_no (fun k => h k.room)
    have hb : (room == 0) = false := beq_eq_false_iff_ne.2 h
    clear h
    have HF : Hid (bareB _ = false) := hF
    clear hF
    have HB0 : Hid (Below w.heap.size w (w.alloc (.cells #[.slice ra 0 rc, .int .i64 0, .string ⟨#[]⟩, .int .i64 room, .slice va vals.length vc, .int .i64 ret, .bool over, .int .i64 steps, .int .i64 looks, .int .i64 hits, .slice ma memo.length mc] 36))) := (Below.refl _ _).alloc (Nat.le_refl _) _
    go_enter Try.func14, Try.ntmps14
    go_wp2
    go_ret
    exact ⟨ret_bool HF.out.symm, HB0.out⟩
  subst h
  by_cases h : vals = []
  rotate_left
  · have hF : bareB ⟨[], 0, ⟨#[]⟩, 0, vals, ret, over, steps, looks, hits, memo⟩ = false := bare_no (fun k => h k.vals)
    have hb : ((vals.length : Int) == 0) = false := beq_eq_false_iff_ne.2 (fun e => h (List.length_eq_zero_iff.1 (by omega)))
    clear h
    have HF : Hid (bareB _ = false) := hF
    clear hF
    have HB0 : Hid (Below w.heap.size w (w.alloc (.cells #[.slice ra 0 rc, .int .i64 0, .string ⟨#[]⟩, .int .i64 0, .slice va vals.length vc, .int .i64 ret, .bool over, .int .i64 steps, .int .i64 looks, .int .i64 hits, .slice ma memo.length mc] 36))) := (Below.refl _ _).alloc (Nat.le_refl _) _
    go_enter Try.func14, Try.ntmps14
    go_wp2
    go_ret
    exact ⟨ret_bool HF.out.symm, HB0.out⟩
  subst h
  by_cases h : ret = 0
  rotate_left
  · have hF : bareB ⟨[], 0, ⟨#[]⟩, 0, [], ret, over, steps, looks, hits, memo⟩ = false := bare_no (fun k => h k.ret)
    have hb : (ret == 0) = false := beq_eq_false_iff_ne.2 h
    clear h
    have HF : Hid (bareB _ = false) := hF
    clear hF
    have HB0 : Hid (Below w.heap.size w (w.alloc (.cells #[.slice ra 0 rc, .int .i64 0, .string ⟨#[]⟩, .int .i64 0, .slice va 0 vc, .int .i64 ret, .bool over, .int .i64 steps, .int .i64 looks, .int .i64 hits, .slice ma memo.length mc] 36))) := (Below.refl _ _).alloc (Nat.le_refl _) _
    go_enter Try.func14, Try.ntmps14
    go_wp2
    go_ret
    exact ⟨ret_bool HF.out.symm, HB0.out⟩
  subst h
  rcases over with _ | _
  rotate_left
  · have hF : bareB ⟨[], 0, ⟨#[]⟩, 0, [], 0, true, steps, looks, hits, memo⟩ = false := bare_no (fun h => by cases h.over)
    have HF : Hid (bareB _ = false) := hF
    clear hF
    have HB0 : Hid (Below w.heap.size w (w.alloc (.cells #[.slice ra 0 rc, .int .i64 0, .string ⟨#[]⟩, .int .i64 0, .slice va 0 vc, .int .i64 0, .bool true, .int .i64 steps, .int .i64 looks, .int .i64 hits, .slice ma memo.length mc] 36))) := (Below.refl _ _).alloc (Nat.le_refl _) _
    go_enter Try.func14, Try.ntmps14
    go_wp2
    go_ret
    exact ⟨ret_bool HF.out.symm, HB0.out⟩
  by_cases h : steps = 0
  rotate_left
  · have hF : bareB ⟨[], 0, ⟨#[]⟩, 0, [], 0, false, steps, looks, hits, memo⟩ = false := bare_no (fun k => h k.steps)
    have hb : (steps == 0) = false := beq_eq_false_iff_ne.2 h
    clear h
    have HF : Hid (bareB _ = false) := hF
    clear hF
    have HB0 : Hid (Below w.heap.size w (w.alloc (.cells #[.slice ra 0 rc, .int .i64 0, .string ⟨#[]⟩, .int .i64 0, .slice va 0 vc, .int .i64 0, .bool false, .int .i64 steps, .int .i64 looks, .int .i64 hits, .slice ma memo.length mc] 36))) := (Below.refl _ _).alloc (Nat.le_refl _) _
    go_enter Try.func14, Try.ntmps14
    go_wp2
    go_ret
    exact ⟨ret_bool HF.out.symm, HB0.out⟩
  subst h
  by_cases h : looks = 0
  rotate_left
  · have hF : bareB ⟨[], 0, ⟨#[]⟩, 0, [], 0, false, 0, looks, hits, memo⟩ = false := bare_no (fun k => h k.looks)
    have hb : (looks == 0) = false := beq_eq_false_iff_ne.2 h
    clear h
    have HF : Hid (bareB _ = false) := hF
    clear hF
    have HB0 : Hid (Below w.heap.size w (w.alloc (.cells #[.slice ra 0 rc, .int .i64 0, .string ⟨#[]⟩, .int .i64 0, .slice va 0 vc, .int .i64 0, .bool false, .int .i64 0, .int .i64 looks, .int .i64 hits, .slice ma memo.length mc] 36))) := (Below.refl _ _).alloc (Nat.le_refl _) _
    go_enter Try.func14, Try.ntmps14
    go_wp2
    go_ret
    exact ⟨ret_bool HF.out.symm, HB0.out⟩
  subst h
  by_cases h : hits = 0
  rotate_left
  · have hF : bareB ⟨[], 0, ⟨#[]⟩, 0, [], 0, false, 0, 0, hits, memo⟩ = false := bare_no (fun k => h k.hits)
    have hb : (hits == 0) = false := beq_eq_false_iff_ne.2 h
    clear h
    have HF : Hid (bareB _ = false) := hF
    clear hF
    have HB0 : Hid (Below w.heap.size w (w.alloc (.cells #[.slice ra 0 rc, .int .i64 0, .string ⟨#[]⟩, .int .i64 0, .slice va 0 vc, .int .i64 0, .bool false, .int .i64 0, .int .i64 0, .int .i64 hits, .slice ma memo.length mc] 36))) := (Below.refl _ _).alloc (Nat.le_refl _) _
    go_enter Try.func14, Try.ntmps14
    go_wp2
    go_ret
    exact ⟨ret_bool HF.out.symm, HB0.out⟩
  subst h
  by_cases h : memo = []
  rotate_left
  · have hF : bareB ⟨[], 0, ⟨#[]⟩, 0, [], 0, false, 0, 0, 0, memo⟩ = false := bare_no (fun k => h k.memo)
    have hb : ((memo.length : Int) == 0) = false := beq_eq_false_iff_ne.2 (fun e => h (List.length_eq_zero_iff.1 (by omega)))
    clear h
    have HF : Hid (bareB _ = false) := hF
    clear hF
    have HB0 : Hid (Below w.heap.size w (w.alloc (.cells #[.slice ra 0 rc, .int .i64 0, .string ⟨#[]⟩, .int .i64 0, .slice va 0 vc, .int .i64 0, .bool false, .int .i64 0, .int .i64 0, .int .i64 0, .slice ma memo.length mc] 36))) := (Below.refl _ _).alloc (Nat.le_refl _) _
    go_enter Try.func14, Try.ntmps14
    go_wp2
    go_ret
    exact ⟨ret_bool HF.out.symm, HB0.out⟩
  subst h
  have HF : Hid (bareB ⟨[], 0, ⟨#[]⟩, 0, [], 0, false, 0, 0, 0, []⟩ = true) := bare_yes
  have HB0 : Hid (Below w.heap.size w (w.alloc (.cells #[.slice ra 0 rc, .int .i64 0, .string ⟨#[]⟩, .int .i64 0, .slice va 0 vc, .int .i64 0, .bool false, .int .i64 0, .int .i64 0, .int .i64 0, .slice ma 0 mc] 36))) := (Below.refl _ _).alloc (Nat.le_refl _) _
  go_enter Try.func14, Try.ntmps14
  go_wp2
  go_ret
  exact ⟨ret_bool HF.out.symm, HB0.out⟩

end Go.Proofs.Ytmhambifbimndaa.Jb2
