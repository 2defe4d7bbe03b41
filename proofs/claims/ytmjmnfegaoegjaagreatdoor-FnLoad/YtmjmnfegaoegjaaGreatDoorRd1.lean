/- The draw of a machine, sometimes spoilt. Written by tools/mkrd1.py. -/
import Derived.Deep.RegionWith
import Derived.Test.YtmjmnfegaoegjaaGreatDoorPkLD19
import Derived.Test.YtmjmnfegaoegjaaGreatDoorPkLD20
import Derived.Test.YtmjmnfegaoegjaaGreatDoorPkLD22
namespace Go.Proofs.YtmjmnfegaoegjaaGreatDoor.Rd1
open Go.RowKit
open Ta0 Ta1 Tc2 Tdw Ap0 Ap1 Ddr Mm0 Mx0 Mu2 Mu6 Mu8 Mw9 Rd0 Rdp
open Nd0 (Kept set_same set_other lt_of_cell At)
open Nd6 (Bools BoolsIn)
open Dr0 (Cur Only Bytes)
open Qc0 (Sn)
open Ss0 (bs bs_size)
open Ss1 (tl)
open Wp6 (step_int)
set_option linter.unusedVariables false
set_option linter.unusedSimpArgs false

theorem at_own {a : Option Addr} {n c k : Nat} (h : ((.slice a n c) : Value).ownBlock = some k) : At a k := by
  cases a with
  | none => cases h
  | some x => cases h; exact ⟨x, rfl, rfl⟩
structure Fn (w W : World) (b : Nat) (a : Option Addr) (len cap r q B : Nat) (m : Mc) (ra va ma : Option Addr) (rc vc mc : Nat) : Prop where
  cur : Cur W b a len cap
  onl : Only b w W
  res : Mf W r [.slice none 0 0, .int .i64 0, .string ⟨#[]⟩, .int .i64 0, .slice none 0 0, .int .i64 0, .bool false, .int .i64 0, .int .i64 0, .int .i64 0, .slice none 0 0]
  mac : Mf W q [.slice ra m.row.length rc, .int .i64 m.N, .string m.S, .int .i64 m.room, .slice va m.vals.length vc, .int .i64 m.ret, .bool m.over, .int .i64 m.steps, .int .i64 m.looks, .int .i64 m.hits, .slice ma m.memo.length mc]
  row : Owb W B (.slice ra m.row.length rc) m.row
  vals : Ows W B (.slice va m.vals.length vc) m.vals
  memo : OwSo W B (.slice ma m.memo.length mc) m.memo
  rw_ : r = w.heap.size
  bw : b < w.heap.size
  rB : r < B
  low : Low a len w.heap.size
structure Sx (w W : World) (b : Nat) (a : Option Addr) (len cap r q B : Nat) (m : Mc) (ra va ma : Option Addr) (rc vc mc : Nat) : Prop where
  fn : Fn w W b a len cap r q B m ra va ma rc vc mc
  rv : ∀ k, At ra k → ¬ At va k
  rm : ∀ k, At ra k → ¬ At ma k
  vm : ∀ k, At va k → ¬ At ma k
  qr : ∀ k, At ra k ∨ At va k ∨ At ma k → k ≠ q
  Bq : B ≤ q
theorem Sx.only {w W : World} {b : Nat} {a : Option Addr} {len cap r q B : Nat} {m : Mc} {ra va ma : Option Addr} {rc vc mc : Nat} (h : Sx w W b a len cap r q B m ra va ma rc vc mc) {W' : World} (hc : Cur W' b a len cap) (ho : Only b W W') : Sx w W' b a len cap r q B m ra va ma rc vc mc := by
  have hk := kept_of_only ho
  have h1 := h.fn.rw_
  have h2 := h.fn.bw
  have h3 := h.fn.rB
  have h4 := h.Bq
  exact ⟨⟨hc, h.fn.onl.trans ho, h.fn.res.kept hk (fun e => by have e' : r = b := e; omega), h.fn.mac.kept hk (fun e => by have e' : q = b := e; omega), h.fn.row.kept hk (fun i hi e => by have := (h.fn.row.lt i hi).1; have e' : i = b := e; omega), h.fn.vals.kept hk (fun i hi e => by have := (h.fn.vals.lt i hi).1; have e' : i = b := e; omega), h.fn.memo.kept hk (fun g o n c hv e => by have := (h.fn.memo.lt g o n c hv).1; have e' : g = b := e; omega), h1, h2, h3, h.fn.low⟩, h.rv, h.rm, h.vm, h.qr, h4⟩
theorem Fn.put {w W : World} {b : Nat} {a : Option Addr} {len cap r q B : Nat} {m : Mc} {ra va ma : Option Addr} {rc vc mc : Nat} (h : Fn w W b a len cap r q B m ra va ma rc vc mc) (hqb : B ≤ q) (hn : ∀ k, At ra k ∨ At va k ∨ At ma k → k ≠ q) (i : Nat) (v : Value) : Cur (W.setCell ⟨q, i, none⟩ v) b a len cap ∧ Only b w (W.setCell ⟨q, i, none⟩ v) ∧ Mf (W.setCell ⟨q, i, none⟩ v) r [.slice none 0 0, .int .i64 0, .string ⟨#[]⟩, .int .i64 0, .slice none 0 0, .int .i64 0, .bool false, .int .i64 0, .int .i64 0, .int .i64 0, .slice none 0 0] ∧ Mf (W.setCell ⟨q, i, none⟩ v) q ([.slice ra m.row.length rc, .int .i64 m.N, .string m.S, .int .i64 m.room, .slice va m.vals.length vc, .int .i64 m.ret, .bool m.over, .int .i64 m.steps, .int .i64 m.looks, .int .i64 m.hits, .slice ma m.memo.length mc].set i v) ∧ Owb (W.setCell ⟨q, i, none⟩ v) B (.slice ra m.row.length rc) m.row ∧ Ows (W.setCell ⟨q, i, none⟩ v) B (.slice va m.vals.length vc) m.vals ∧ OwSo (W.setCell ⟨q, i, none⟩ v) B (.slice ma m.memo.length mc) m.memo := by
  have hk : Kept (fun k => k = q) W (W.setCell ⟨q, i, none⟩ v) := (Kept.refl (fun k => k = q) W).setCell (p := ⟨q, i, none⟩) rfl _
  have h1 := h.rw_
  have h2 := h.bw
  have h3 := h.rB
  refine ⟨cur_kept h.cur hk (fun e => by have e' : b = q := e; omega) ?_, ?_, h.res.kept hk (fun e => by have e' : r = q := e; omega), h.mac.set i v, h.row.kept hk (fun j hj e => hn j (.inl (at_own hj)) e), h.vals.kept hk (fun j hj e => hn j (.inr (.inl (at_own hj))) e), h.memo.kept hk (fun g o n c hv e => hn g (.inr (.inr (by cases hv; exact ⟨_, rfl, rfl⟩))) e)⟩
  · rcases h.low with h0 | h0
    · exact .inl h0
    · exact .inr fun x hx e => by have := h0 x hx; have e' : x.block = q := e; omega
  · exact ⟨hk.os.trans h.onl.os, hk.tape.trans h.onl.tape, hk.output.trans h.onl.output, Nat.le_trans h.onl.size hk.size, fun k hk' hb => (hk.block k (Nat.lt_of_lt_of_le hk' h.onl.size) (fun e => by have e' : k = q := e; omega)).trans (h.onl.block k hk' hb)⟩

def MP (w : World) (b : Nat) (a : Option Addr) (len cap : Nat) (e : Ending) (w' : World) : Prop :=
  (∃ (m : Mc) (ra va ma : Option Addr) (rc vc mc : Nat), e = .returned (mval m ra va ma rc vc mc) ∧ Mr w' m ra va ma ∧ m.S.size ≤ 1048576 ∧ ∀ x ∈ m.memo, x.k.size ≤ 1048576) ∧ Cur w' b a len cap ∧ Only b w w'
theorem Fn.fin {w W : World} {b : Nat} {a : Option Addr} {len cap r q B : Nat} {m : Mc} {ra va ma : Option Addr} {rc vc mc : Nat} (h : Fn w W b a len cap r q B m ra va ma rc vc mc) (hS : m.S.size ≤ 1048576) (hk : ∀ x ∈ m.memo, x.k.size ≤ 1048576) {WF : World} (hWF : WF = (((((((((((W).setCell ⟨r, 0, none⟩ (.slice ra m.row.length rc)).setCell ⟨r, 1, none⟩ (.int .i64 m.N)).setCell ⟨r, 2, none⟩ (.string m.S)).setCell ⟨r, 3, none⟩ (.int .i64 m.room)).setCell ⟨r, 4, none⟩ (.slice va m.vals.length vc)).setCell ⟨r, 5, none⟩ (.int .i64 m.ret)).setCell ⟨r, 6, none⟩ (.bool m.over)).setCell ⟨r, 7, none⟩ (.int .i64 m.steps)).setCell ⟨r, 8, none⟩ (.int .i64 m.looks)).setCell ⟨r, 9, none⟩ (.int .i64 m.hits)).setCell ⟨r, 10, none⟩ (.slice ma m.memo.length mc)) :
    Mf WF r [.slice ra m.row.length rc, .int .i64 m.N, .string m.S, .int .i64 m.room, .slice va m.vals.length vc, .int .i64 m.ret, .bool m.over, .int .i64 m.steps, .int .i64 m.looks, .int .i64 m.hits, .slice ma m.memo.length mc] ∧ MP w b a len cap (.returned (mval m ra va ma rc vc mc)) WF := by
  have KF : Kept (fun k => k = r) W WF := by
    rw [hWF]
    exact (((((((((((Kept.refl (fun k => k = r) W).setCell (p := ⟨r, 0, none⟩) rfl _).setCell (p := ⟨r, 1, none⟩) rfl _).setCell (p := ⟨r, 2, none⟩) rfl _).setCell (p := ⟨r, 3, none⟩) rfl _).setCell (p := ⟨r, 4, none⟩) rfl _).setCell (p := ⟨r, 5, none⟩) rfl _).setCell (p := ⟨r, 6, none⟩) rfl _).setCell (p := ⟨r, 7, none⟩) rfl _).setCell (p := ⟨r, 8, none⟩) rfl _).setCell (p := ⟨r, 9, none⟩) rfl _).setCell (p := ⟨r, 10, none⟩) rfl _
  have h1 := h.rw_
  have h2 := h.bw
  have h3 := h.rB
  have f1 := h.row.kept KF (fun j hj e => by have := (h.row.lt j hj).1; have e' : j = r := e; omega)
  have f2 := h.vals.kept KF (fun j hj e => by have := (h.vals.lt j hj).1; have e' : j = r := e; omega)
  have f3 := h.memo.kept KF (fun g o n c hv e => by have := (h.memo.lt g o n c hv).1; have e' : g = r := e; omega)
  refine ⟨by rw [hWF]; exact (((((((((((h.res).set 0 (.slice ra m.row.length rc)).set 1 (.int .i64 m.N)).set 2 (.string m.S)).set 3 (.int .i64 m.room)).set 4 (.slice va m.vals.length vc)).set 5 (.int .i64 m.ret)).set 6 (.bool m.over)).set 7 (.int .i64 m.steps)).set 8 (.int .i64 m.looks)).set 9 (.int .i64 m.hits)).set 10 (.slice ma m.memo.length mc), ⟨m, ra, va, ma, rc, vc, mc, rfl, ?_, hS, hk⟩, ?_, ?_⟩
  · obtain ⟨a1, c1, e1, g1⟩ := f1.form
    obtain ⟨a2, c2, e2, g2⟩ := f2.form
    obtain ⟨a3, c3, e3, g3, _⟩ := f3.form
    cases e1
    cases e2
    cases e3
    exact ⟨Nd6.WBools.plain g1, g2.ints, g3.plain⟩
  · refine cur_kept h.cur KF (fun e => by have e' : b = r := e; omega) ?_
    rcases h.low with h0 | h0
    · exact .inl h0
    · exact .inr fun x hx e => by have := h0 x hx; have e' : x.block = r := e; omega
  · exact ⟨KF.os.trans h.onl.os, KF.tape.trans h.onl.tape, KF.output.trans h.onl.output, Nat.le_trans h.onl.size KF.size, fun k hk' hb => (KF.block k (Nat.lt_of_lt_of_le hk' h.onl.size) (fun e => by have e' : k = r := e; omega)).trans (h.onl.block k hk' hb)⟩
theorem Sx.drew {w W : World} {b : Nat} {a : Option Addr} {len cap r q B : Nat} {m : Mc} {ra va ma : Option Addr} {rc vc mc : Nat} (h : Sx w W b a len cap r q B m ra va ma rc vc mc) : Sx w W.drew b a len cap r q B m ra va ma rc vc mc := h.only h.fn.cur.drew ((Only.refl b W).drew)


theorem Sx.grow_row {w W : World} {b : Nat} {a : Option Addr} {len cap r q B : Nat} {m : Mc} {ra va ma : Option Addr} {rc vc mc : Nat} (h : Sx w W b a len cap r q B m ra va ma rc vc mc) {w9 : World} (g9 cp9 : Nat) {y : Bool} (hK1 : Kept (At ra) W w9) (hO : Owb w9 B (.slice (some ⟨g9, 0, none⟩) (m.row.length + 1) cp9) (m.row ++ [y])) (hg : At ra g9 ∨ W.heap.size ≤ g9) :
    Mf w9 q [.slice ra m.row.length rc, .int .i64 m.N, .string m.S, .int .i64 m.room, .slice va m.vals.length vc, .int .i64 m.ret, .bool m.over, .int .i64 m.steps, .int .i64 m.looks, .int .i64 m.hits, .slice ma m.memo.length mc] ∧ Fn w (w9.setCell ⟨q, 0, none⟩ (.slice (some ⟨g9, 0, none⟩) (m.row.length + 1) cp9)) b a len cap r q B { m with row := m.row ++ [y] } (some ⟨g9, 0, none⟩) va ma cp9 vc mc := by
  have h1 := h.fn.rw_
  have h2 := h.fn.bw
  have h3 := h.fn.rB
  have h4 := h.Bq
  have hlo : ∀ k, At ra k → B ≤ k := fun k hk => by
    obtain ⟨x, hx, rfl⟩ := hk
    exact (h.fn.row.lt x.block (by rw [hx]; rfl)).1
  have hql : q < W.heap.size := h.fn.mac.lt (by simp)
  have hm9 : Mf w9 q [.slice ra m.row.length rc, .int .i64 m.N, .string m.S, .int .i64 m.room, .slice va m.vals.length vc, .int .i64 m.ret, .bool m.over, .int .i64 m.steps, .int .i64 m.looks, .int .i64 m.hits, .slice ma m.memo.length mc] := h.fn.mac.kept hK1 (fun e => h.qr q (.inl e) rfl)
  have hgq : g9 ≠ q := fun e => by
    rcases hg with e1 | e1
    · exact h.qr g9 (.inl e1) e
    · omega
  have hk2 : Kept (fun k => k = q) w9 (w9.setCell ⟨q, 0, none⟩ (.slice (some ⟨g9, 0, none⟩) (m.row.length + 1) cp9)) := (Kept.refl (fun k => k = q) w9).setCell (p := ⟨q, 0, none⟩) rfl _
  have el : (m.row ++ [y]).length = m.row.length + 1 := by simp
  have hO2 : Owb (w9.setCell ⟨q, 0, none⟩ (.slice (some ⟨g9, 0, none⟩) (m.row.length + 1) cp9)) B (.slice (some ⟨g9, 0, none⟩) (m.row ++ [y]).length cp9) (m.row ++ [y]) := by
    rw [el]
    exact hO.kept hk2 (fun j hj e => by cases hj; exact hgq e)
  refine ⟨hm9, cur_kept (cur_kept h.fn.cur hK1 (fun e => by have := hlo b e; omega) ?_) hk2 (fun e => by have e' : b = q := e; omega) ?_, ?_, (h.fn.res.kept hK1 (fun e => by have := hlo r e; omega)).kept hk2 (fun e => by have e' : r = q := e; omega), ?_, hO2, ((h.fn.vals.kept hK1 (fun j hj => (fun (k0 : Nat) (hk0 : At va k0) => (fun e => h.rv k0 e hk0 : ¬ At ra k0)) j (at_own hj))).kept hk2 (fun j hj e => h.qr j (.inr (.inl (at_own hj))) e)), ((h.fn.memo.kept hK1 (fun g o n c hv => (fun (k0 : Nat) (hk0 : At ma k0) => (fun e => h.rm k0 e hk0 : ¬ At ra k0)) g (by cases hv; exact ⟨_, rfl, rfl⟩))).kept hk2 (fun g o n c hv e => h.qr g (.inr (.inr (by cases hv; exact ⟨_, rfl, rfl⟩))) e)), h1, h2, h3, h.fn.low⟩
  · rcases h.fn.low with h0 | h0
    · exact .inl h0
    · exact .inr fun x hx e => by have := h0 x hx; have := hlo _ e; omega
  · rcases h.fn.low with h0 | h0
    · exact .inl h0
    · exact .inr fun x hx e => by have := h0 x hx; have e' : x.block = q := e; omega
  · have hA := h.fn.onl
    exact ⟨hk2.os.trans (hK1.os.trans hA.os), hk2.tape.trans (hK1.tape.trans hA.tape), hk2.output.trans (hK1.output.trans hA.output), Nat.le_trans hA.size (Nat.le_trans hK1.size hk2.size), fun k hk' hb => (hk2.block k (Nat.lt_of_lt_of_le (Nat.lt_of_lt_of_le hk' hA.size) hK1.size) (fun e => by have e' : k = q := e; omega)).trans ((hK1.block k (Nat.lt_of_lt_of_le hk' hA.size) (fun e => by have := hlo k e; omega)).trans (hA.block k hk' hb))⟩
  · show Mf _ q [.slice (some ⟨g9, 0, none⟩) (m.row ++ [y]).length cp9, .int .i64 m.N, .string m.S, .int .i64 m.room, .slice va m.vals.length vc, .int .i64 m.ret, .bool m.over, .int .i64 m.steps, .int .i64 m.looks, .int .i64 m.hits, .slice ma m.memo.length mc]
    rw [el]
    exact hm9.set 0 _

theorem Sx.grow_vals {w W : World} {b : Nat} {a : Option Addr} {len cap r q B : Nat} {m : Mc} {ra va ma : Option Addr} {rc vc mc : Nat} (h : Sx w W b a len cap r q B m ra va ma rc vc mc) {w9 : World} (g9 cp9 : Nat) {y : Int} (hK1 : Kept (At va) W w9) (hO : Ows w9 B (.slice (some ⟨g9, 0, none⟩) (m.vals.length + 1) cp9) (m.vals ++ [y])) (hg : At va g9 ∨ W.heap.size ≤ g9) :
    Mf w9 q [.slice ra m.row.length rc, .int .i64 m.N, .string m.S, .int .i64 m.room, .slice va m.vals.length vc, .int .i64 m.ret, .bool m.over, .int .i64 m.steps, .int .i64 m.looks, .int .i64 m.hits, .slice ma m.memo.length mc] ∧ Fn w (w9.setCell ⟨q, 4, none⟩ (.slice (some ⟨g9, 0, none⟩) (m.vals.length + 1) cp9)) b a len cap r q B { m with vals := m.vals ++ [y] } ra (some ⟨g9, 0, none⟩) ma rc cp9 mc := by
  have h1 := h.fn.rw_
  have h2 := h.fn.bw
  have h3 := h.fn.rB
  have h4 := h.Bq
  have hlo : ∀ k, At va k → B ≤ k := fun k hk => by
    obtain ⟨x, hx, rfl⟩ := hk
    exact (h.fn.vals.lt x.block (by rw [hx]; rfl)).1
  have hql : q < W.heap.size := h.fn.mac.lt (by simp)
  have hm9 : Mf w9 q [.slice ra m.row.length rc, .int .i64 m.N, .string m.S, .int .i64 m.room, .slice va m.vals.length vc, .int .i64 m.ret, .bool m.over, .int .i64 m.steps, .int .i64 m.looks, .int .i64 m.hits, .slice ma m.memo.length mc] := h.fn.mac.kept hK1 (fun e => h.qr q (.inr (.inl e)) rfl)
  have hgq : g9 ≠ q := fun e => by
    rcases hg with e1 | e1
    · exact h.qr g9 (.inr (.inl e1)) e
    · omega
  have hk2 : Kept (fun k => k = q) w9 (w9.setCell ⟨q, 4, none⟩ (.slice (some ⟨g9, 0, none⟩) (m.vals.length + 1) cp9)) := (Kept.refl (fun k => k = q) w9).setCell (p := ⟨q, 4, none⟩) rfl _
  have el : (m.vals ++ [y]).length = m.vals.length + 1 := by simp
  have hO2 : Ows (w9.setCell ⟨q, 4, none⟩ (.slice (some ⟨g9, 0, none⟩) (m.vals.length + 1) cp9)) B (.slice (some ⟨g9, 0, none⟩) (m.vals ++ [y]).length cp9) (m.vals ++ [y]) := by
    rw [el]
    exact hO.kept hk2 (fun j hj e => by cases hj; exact hgq e)
  refine ⟨hm9, cur_kept (cur_kept h.fn.cur hK1 (fun e => by have := hlo b e; omega) ?_) hk2 (fun e => by have e' : b = q := e; omega) ?_, ?_, (h.fn.res.kept hK1 (fun e => by have := hlo r e; omega)).kept hk2 (fun e => by have e' : r = q := e; omega), ?_, ((h.fn.row.kept hK1 (fun j hj => (fun (k0 : Nat) (hk0 : At ra k0) => (fun e => h.rv k0 hk0 e : ¬ At va k0)) j (at_own hj))).kept hk2 (fun j hj e => h.qr j (.inl (at_own hj)) e)), hO2, ((h.fn.memo.kept hK1 (fun g o n c hv => (fun (k0 : Nat) (hk0 : At ma k0) => (fun e => h.vm k0 e hk0 : ¬ At va k0)) g (by cases hv; exact ⟨_, rfl, rfl⟩))).kept hk2 (fun g o n c hv e => h.qr g (.inr (.inr (by cases hv; exact ⟨_, rfl, rfl⟩))) e)), h1, h2, h3, h.fn.low⟩
  · rcases h.fn.low with h0 | h0
    · exact .inl h0
    · exact .inr fun x hx e => by have := h0 x hx; have := hlo _ e; omega
  · rcases h.fn.low with h0 | h0
    · exact .inl h0
    · exact .inr fun x hx e => by have := h0 x hx; have e' : x.block = q := e; omega
  · have hA := h.fn.onl
    exact ⟨hk2.os.trans (hK1.os.trans hA.os), hk2.tape.trans (hK1.tape.trans hA.tape), hk2.output.trans (hK1.output.trans hA.output), Nat.le_trans hA.size (Nat.le_trans hK1.size hk2.size), fun k hk' hb => (hk2.block k (Nat.lt_of_lt_of_le (Nat.lt_of_lt_of_le hk' hA.size) hK1.size) (fun e => by have e' : k = q := e; omega)).trans ((hK1.block k (Nat.lt_of_lt_of_le hk' hA.size) (fun e => by have := hlo k e; omega)).trans (hA.block k hk' hb))⟩
  · show Mf _ q [.slice ra m.row.length rc, .int .i64 m.N, .string m.S, .int .i64 m.room, .slice (some ⟨g9, 0, none⟩) (m.vals ++ [y]).length cp9, .int .i64 m.ret, .bool m.over, .int .i64 m.steps, .int .i64 m.looks, .int .i64 m.hits, .slice ma m.memo.length mc]
    rw [el]
    exact hm9.set 4 _

theorem Sx.grow_memo {w W : World} {b : Nat} {a : Option Addr} {len cap r q B : Nat} {m : Mc} {ra va ma : Option Addr} {rc vc mc : Nat} (h : Sx w W b a len cap r q B m ra va ma rc vc mc) {w9 : World} (g9 p9 cp9 : Nat) {y : Sn} (hK1 : Kept (At ma) W w9) (hO : OwSo w9 B (.slice (some ⟨g9, p9, none⟩) (m.memo.length + 1) cp9) (m.memo ++ [y])) (hg : At ma g9 ∨ W.heap.size ≤ g9) :
    Mf w9 q [.slice ra m.row.length rc, .int .i64 m.N, .string m.S, .int .i64 m.room, .slice va m.vals.length vc, .int .i64 m.ret, .bool m.over, .int .i64 m.steps, .int .i64 m.looks, .int .i64 m.hits, .slice ma m.memo.length mc] ∧ Fn w (w9.setCell ⟨q, 10, none⟩ (.slice (some ⟨g9, p9, none⟩) (m.memo.length + 1) cp9)) b a len cap r q B { m with memo := m.memo ++ [y] } ra va (some ⟨g9, p9, none⟩) rc vc cp9 := by
  have h1 := h.fn.rw_
  have h2 := h.fn.bw
  have h3 := h.fn.rB
  have h4 := h.Bq
  have hlo : ∀ k, At ma k → B ≤ k := fun k hk => by
    obtain ⟨x, hx, rfl⟩ := hk
    rcases h.fn.memo with ⟨e, _⟩ | ⟨g, o1, c1, e, hb, _⟩
    · rw [hx] at e; cases e
    · rw [hx] at e; cases e; exact hb
  have hql : q < W.heap.size := h.fn.mac.lt (by simp)
  have hm9 : Mf w9 q [.slice ra m.row.length rc, .int .i64 m.N, .string m.S, .int .i64 m.room, .slice va m.vals.length vc, .int .i64 m.ret, .bool m.over, .int .i64 m.steps, .int .i64 m.looks, .int .i64 m.hits, .slice ma m.memo.length mc] := h.fn.mac.kept hK1 (fun e => h.qr q (.inr (.inr e)) rfl)
  have hgq : g9 ≠ q := fun e => by
    rcases hg with e1 | e1
    · exact h.qr g9 (.inr (.inr e1)) e
    · omega
  have hk2 : Kept (fun k => k = q) w9 (w9.setCell ⟨q, 10, none⟩ (.slice (some ⟨g9, p9, none⟩) (m.memo.length + 1) cp9)) := (Kept.refl (fun k => k = q) w9).setCell (p := ⟨q, 10, none⟩) rfl _
  have el : (m.memo ++ [y]).length = m.memo.length + 1 := by simp
  have hO2 : OwSo (w9.setCell ⟨q, 10, none⟩ (.slice (some ⟨g9, p9, none⟩) (m.memo.length + 1) cp9)) B (.slice (some ⟨g9, p9, none⟩) (m.memo ++ [y]).length cp9) (m.memo ++ [y]) := by
    rw [el]
    exact hO.kept hk2 (fun g o n c hv e => by cases hv; exact hgq e)
  refine ⟨hm9, cur_kept (cur_kept h.fn.cur hK1 (fun e => by have := hlo b e; omega) ?_) hk2 (fun e => by have e' : b = q := e; omega) ?_, ?_, (h.fn.res.kept hK1 (fun e => by have := hlo r e; omega)).kept hk2 (fun e => by have e' : r = q := e; omega), ?_, ((h.fn.row.kept hK1 (fun j hj => (fun (k0 : Nat) (hk0 : At ra k0) => (fun e => h.rm k0 hk0 e : ¬ At ma k0)) j (at_own hj))).kept hk2 (fun j hj e => h.qr j (.inl (at_own hj)) e)), ((h.fn.vals.kept hK1 (fun j hj => (fun (k0 : Nat) (hk0 : At va k0) => (fun e => h.vm k0 hk0 e : ¬ At ma k0)) j (at_own hj))).kept hk2 (fun j hj e => h.qr j (.inr (.inl (at_own hj))) e)), hO2, h1, h2, h3, h.fn.low⟩
  · rcases h.fn.low with h0 | h0
    · exact .inl h0
    · exact .inr fun x hx e => by have := h0 x hx; have := hlo _ e; omega
  · rcases h.fn.low with h0 | h0
    · exact .inl h0
    · exact .inr fun x hx e => by have := h0 x hx; have e' : x.block = q := e; omega
  · have hA := h.fn.onl
    exact ⟨hk2.os.trans (hK1.os.trans hA.os), hk2.tape.trans (hK1.tape.trans hA.tape), hk2.output.trans (hK1.output.trans hA.output), Nat.le_trans hA.size (Nat.le_trans hK1.size hk2.size), fun k hk' hb => (hk2.block k (Nat.lt_of_lt_of_le (Nat.lt_of_lt_of_le hk' hA.size) hK1.size) (fun e => by have e' : k = q := e; omega)).trans ((hK1.block k (Nat.lt_of_lt_of_le hk' hA.size) (fun e => by have := hlo k e; omega)).trans (hA.block k hk' hb))⟩
  · show Mf _ q [.slice ra m.row.length rc, .int .i64 m.N, .string m.S, .int .i64 m.room, .slice va m.vals.length vc, .int .i64 m.ret, .bool m.over, .int .i64 m.steps, .int .i64 m.looks, .int .i64 m.hits, .slice (some ⟨g9, p9, none⟩) (m.memo ++ [y]).length cp9]
    rw [el]
    exact hm9.set 10 _

set_option maxRecDepth 100000 in
set_option maxHeartbeats 16000000 in
theorem machine (w : World) (b : Nat) (a : Option Addr) (len cap : Nat) (hc : Cur w b a len cap) :
    Calls Tryz.prog 54 #[.pointer (some ⟨b, 0, none⟩)] w fun e w' => MP w b a len cap e w' := by
  have hbl := hc.lt
  have HLO : Hid (Low a len w.heap.size) := low_of hc.bytes
  obtain ⟨W0, hW0⟩ : ∃ W, W = w.alloc (.cells #[.slice none 0 0, .int .i64 0, .string ⟨#[]⟩, .int .i64 0, .slice none 0 0, .int .i64 0, .bool false, .int .i64 0, .int .i64 0, .int .i64 0, .slice none 0 0] 30) := ⟨_, rfl⟩
  have HE0 : Hid (w.alloc (.cells #[.slice none 0 0, .int .i64 0, .string ⟨#[]⟩, .int .i64 0, .slice none 0 0, .int .i64 0, .bool false, .int .i64 0, .int .i64 0, .int .i64 0, .slice none 0 0] 30) = W0) := hW0.symm
  have HC0 : Hid (Cur W0 b a len cap) := by rw [hW0]; exact hc.alloc _
  have HO0 : Hid (Only b w W0) := by rw [hW0]; exact (Only.refl b w).alloc _
  have HM0 : Hid (Mf W0 w.heap.size [.slice none 0 0, .int .i64 0, .string ⟨#[]⟩, .int .i64 0, .slice none 0 0, .int .i64 0, .bool false, .int .i64 0, .int .i64 0, .int .i64 0, .slice none 0 0]) := by rw [hW0]; exact Mf.made _ _ _
  clear hW0 hc
  obtain ⟨r, hr⟩ : ∃ r, r = w.heap.size := ⟨_, rfl⟩
  rw [← hr] at HM0
  have HRW : Hid (r = w.heap.size) := hr
  go_enter Tryz.func54, Tryz.ntmps54
  go_wp2_with fail
  rw [HE0.out, ← hr]
  clear HE0 hr
  refine (Rd0.start _ b a len cap HC0.out).mono ?_
  rintro e w1 ⟨⟨n, F, m0, g, c, rfl, hdm, ⟨B1, U1, hB1, hbi⟩, hv0, hm0⟩, hc1, ho1⟩
  have HC1 : Hid (Cur w1 b a len cap) := hc1
  have HO1 : Hid (Only b w w1) := HO0.out.trans ho1
  have HM1 : Hid (Mf w1 r [.slice none 0 0, .int .i64 0, .string ⟨#[]⟩, .int .i64 0, .slice none 0 0, .int .i64 0, .bool false, .int .i64 0, .int .i64 0, .int .i64 0, .slice none 0 0]) := HM0.out.kept (kept_of_only ho1) (fun h => by have h' : r = b := h; have := HRW.out; omega)
  have HBI : Hid (BoolsIn w1 B1 U1 (some ⟨g, 0, none⟩) m0.row) := hbi
  have HB1 : Hid (w.heap.size ≤ B1) := Nat.le_trans HO0.out.size hB1
  have HV0 : Hid (m0.vals = [] ∧ m0.memo = []) := ⟨hv0, hm0⟩
  have HDM : Hid (Dm m0 n F) := hdm
  clear hc1 ho1 HC0 HO0 HM0 hbi hB1 hv0 hm0 hdm
  go_wp2_with fail
  refine (Dr1.below _ b a len cap 60 (by omega) (by omega) HC1.out).mono ?_
  rintro e w2 ⟨⟨x, rfl, hx0, hx1⟩, hc2, ho2⟩
  obtain ⟨k, rfl⟩ := Int.eq_ofNat_of_zero_le hx0
  have HC2 : Hid (Cur w2 b a len cap) := hc2
  have HO2 : Hid (Only b w w2) := HO1.out.trans ho2
  have HM2 : Hid (Mf w2 r [.slice none 0 0, .int .i64 0, .string ⟨#[]⟩, .int .i64 0, .slice none 0 0, .int .i64 0, .bool false, .int .i64 0, .int .i64 0, .int .i64 0, .slice none 0 0]) := HM1.out.kept (kept_of_only ho2) (fun h => by have h' : r = b := h; have := HRW.out; omega)
  have hR2 : Mr w2 m0 (some ⟨g, 0, none⟩) none none := by
    refine ⟨(HBI.out.kept (kept_of_only ho2) (fun k h1 h2 h3 => by have h4 : k = b := h3; have := HB1.out; omega)).plain, ?_, ?_⟩
    · rw [HV0.out.1]; exact ⟨Nat.zero_le _, .inl rfl⟩
    · rw [HV0.out.2]; exact ⟨Nat.zero_le _, .inl rfl⟩
  obtain ⟨row, room, hm0, hrl, hro0, hro1⟩ := HDM.out.is
  have hn6 := HDM.out.n6
  have hIv0 : Iv n F row room m0 := by
    refine ⟨by rw [hm0]; rfl, by rw [hm0]; rfl, HDM.out.ok, by rw [hm0]; rfl, by rw [hm0]; rfl, ?_⟩
    intro x hx
    rw [HV0.out.2] at hx
    cases hx
  have hIv := iv_run k hIv0
  have HRU : Hid (Calls Tryz.prog 10 #[mval m0 (some ⟨g, 0, none⟩) none none c 0 0, .int .i64 (k : Int)] w2 fun e w' => ∃ ra' va' ma' rc' vc' mc', e = .returned (mval (runM n F k m0) ra' va' ma' rc' vc' mc') ∧ MO w' w2.heap.size (runM n F k m0) ra' va' ma' rc' vc' mc' ∧ Below w2.heap.size w2 w') := sRun n F m0 _ _ _ _ _ _ k w2 (by omega) hIv0.hN hIv0.hS hIv0.ok (by omega) hR2
  have HLV : Hid (m0.vals.length = 0 ∧ m0.memo.length = 0) := by rw [HV0.out.1, HV0.out.2]; exact ⟨rfl, rfl⟩
  obtain ⟨m, hm⟩ : ∃ m, m = runM n F k m0 := ⟨_, rfl⟩
  rw [← hm] at HRU hIv
  have HSZ : Hid (m.S.size ≤ 1048576) := by
    rw [hIv.hS]
    show _ ≤ _
    rw [bs_size, tab_length]
    have : 2 ^ n ≤ 2 ^ 6 := Nat.pow_le_pow_right (by omega) hn6
    omega
  have HKS : Hid (∀ x ∈ m.memo, x.k.size ≤ 1048576) := fun x hx => by
    obtain ⟨j, G, hj, e⟩ := hIv.keys x hx
    rw [e]
    exact Nat.le_trans (key_le (by omega) G) (by omega)
  have HML : Hid (m.row.length ≤ 1048576 ∧ m.vals.length ≤ 1048576 ∧ m.memo.length ≤ 1048576) := by
    have h1 := hIv.ok.row
    have h2 := hIv.ok.vals
    have h3 := hIv.ok.memo
    have h4 := hIv.ok.room
    have h5 := hIv.hN
    exact ⟨by omega, by omega, by omega⟩
  clear hm hm0 hrl hro0 hro1 hIv hIv0 hR2 hc2 ho2 HC1 HO1 HM1 HBI HB1 HDM HV0
  have hrw2 : r < w2.heap.size := HM2.out.lt (by simp)
  have hbw2 : b < w2.heap.size := HC2.out.lt
  go_wp2_with fail
  refine Calls.mono HRU.out ?_
  rintro e w3 ⟨ra, va, ma, rc, vc, mc, rfl, hmo, hb3⟩
  go_upto_region 2 with fail
  obtain ⟨W4, hW4⟩ : ∃ y, y = w3.alloc (.cells #[.slice ra m.row.length rc, .int .i64 m.N, .string m.S, .int .i64 m.room, .slice va m.vals.length vc, .int .i64 m.ret, .bool m.over, .int .i64 m.steps, .int .i64 m.looks, .int .i64 m.hits, .slice ma m.memo.length mc] 30) := ⟨_, rfl⟩
  obtain ⟨q, hq⟩ : ∃ q, q = w3.heap.size := ⟨_, rfl⟩
  have hby : Below w3.heap.size w3 W4 := by rw [hW4]; exact (Below.refl _ _).alloc (Nat.le_refl _) _
  have hmq : Mf W4 q [.slice ra m.row.length rc, .int .i64 m.N, .string m.S, .int .i64 m.room, .slice va m.vals.length vc, .int .i64 m.ret, .bool m.over, .int .i64 m.steps, .int .i64 m.looks, .int .i64 m.hits, .slice ma m.memo.length mc] := by rw [hW4, hq]; exact Mf.made _ _ _
  have hs3 := hb3.size
  have HS4 : Hid (Sx w W4 b a len cap r q w2.heap.size m ra va ma rc vc mc) := by
    have hkF : Kept (fun _ => False) w3 W4 := Kept.ofBelow hby
    refine ⟨⟨curB (curB HC2.out hb3) hby, (HO2.out.trans (onlyB hb3)).trans (onlyB hby), (HM2.out.below hb3).below hby, hmq, hmo.row.kept hkF (fun _ _ h => h), hmo.vals.kept hkF (fun _ _ h => h), (OwSo.of hmo.memo).kept hkF (fun _ _ _ _ _ h => h), HRW.out, hbl, hrw2, HLO.out⟩, ?_, ?_, ?_, ?_, by omega⟩
    · rintro k1 ⟨x, hx, rfl⟩ ⟨y, hy, e⟩; exact hmo.rv x y hx hy e
    · rintro k1 ⟨x, hx, rfl⟩ ⟨y, hy, e⟩; exact hmo.rm x y hx hy e
    · rintro k1 ⟨x, hx, rfl⟩ ⟨y, hy, e⟩; exact hmo.vm x y hx hy e
    · intro k1 h1 e
      have h2 : k1 < w3.heap.size := by
        rcases h1 with ⟨x, rfl, rfl⟩ | ⟨x, rfl, rfl⟩ | ⟨x, rfl, rfl⟩
        · exact (hmo.row.lt _ rfl).2
        · exact (hmo.vals.lt _ rfl).2
        · exact (hmo.memo.lt _ rfl).2
      omega
  rw [← hW4, ← hq]
  generalize w2.heap.size = B at HS4 hrw2
  clear hW4 hq hby hmq hmo hb3 hs3 HC2 HO2 HM2 HRU
  go_wp2_with fail
  refine (Dr1.below _ b a len cap 20 (by omega) (by omega) HS4.out.fn.cur).mono ?_
  rintro e w5 ⟨⟨y, rfl, hy0, hy1⟩, hc5, ho5⟩
  have HS5 : Hid (Sx w w5 b a len cap r q B m ra va ma rc vc mc) := HS4.out.only hc5 ho5
  clear hc5 ho5 HS4
  by_cases hy0e : y = 0
  · skip
    have yb0 : (y == 0) = true := beq_iff_eq.2 hy0e
    clear hy0e
    go_wp2_with fail
    refine (pickP w5 b a len cap _ _ 5 (fun _ => True) (by omega) (by omega) (fun i hi => by
      rcases (show i = 0 ∨ i = 1 ∨ i = 2 ∨ i = 3 ∨ i = 4 by omega) with h | h | h | h | h <;> subst h <;> exact ⟨_, rfl, trivial⟩) HS5.out.fn.cur).mono ?_
    rintro e w6 ⟨⟨x, rfl, _⟩, hc6, ho6⟩
    have HS6 : Hid (Sx w w6 b a len cap r q B m ra va ma rc vc mc) := HS5.out.only hc6 ho6
    clear hc6 ho6 HS5
    obtain ⟨q0, q1, q2, q3, q4, q5, q6, q7, q8, q9, q10, f0, f1, f2, f3, f4, f5, f6, f7, f8, f9, f10⟩ := HS6.out.fn.mac.all
    go_upto_region 15 with fail
    clear q0 f0 q1 f1 q2 f2 q3 f3 q4 f4 q5 f5 q6 f6 q7 f7 q8 f8 q9 f9 q10 f10
    obtain ⟨WA, hWA⟩ : ∃ WA, WA = w6.setCell ⟨q, 5, none⟩ (.int .i64 x) := ⟨_, rfl⟩
    have HFN : Hid (Fn w WA b a len cap r q B { m with ret := x } ra va ma rc vc mc) := by
      rw [hWA]
      obtain ⟨p1, p2, p3, p4, p5, p6, p7⟩ := HS6.out.fn.put HS6.out.Bq HS6.out.qr 5 (.int .i64 x)
      exact ⟨p1, p2, p3, p4, p5, p6, p7, HS6.out.fn.rw_, HS6.out.fn.bw, HS6.out.fn.rB, HS6.out.fn.low⟩
    rw [← hWA]
    clear hWA HS6
    obtain ⟨q0, q1, q2, q3, q4, q5, q6, q7, q8, q9, q10, f0, f1, f2, f3, f4, f5, f6, f7, f8, f9, f10⟩ := HFN.out.mac.all
    obtain ⟨r0, r1, r2, r3, r4, r5, r6, r7, r8, r9, r10, z0, z1, z2, z3, z4, z5, z6, z7, z8, z9, z10⟩ := HFN.out.res.all
    go_wp2
    clear q0 f0 r0 z0 q1 f1 r1 z1 q2 f2 r2 z2 q3 f3 r3 z3 q4 f4 r4 z4 q5 f5 r5 z5 q6 f6 r6 z6 q7 f7 r7 z7 q8 f8 r8 z8 q9 f9 r9 z9 q10 f10 r10 z10
    obtain ⟨WF, hWF⟩ : ∃ WF, WF = (((((((((((WA).setCell ⟨r, 0, none⟩ (.slice ra m.row.length rc)).setCell ⟨r, 1, none⟩ (.int .i64 m.N)).setCell ⟨r, 2, none⟩ (.string m.S)).setCell ⟨r, 3, none⟩ (.int .i64 m.room)).setCell ⟨r, 4, none⟩ (.slice va m.vals.length vc)).setCell ⟨r, 5, none⟩ (.int .i64 x)).setCell ⟨r, 6, none⟩ (.bool m.over)).setCell ⟨r, 7, none⟩ (.int .i64 m.steps)).setCell ⟨r, 8, none⟩ (.int .i64 m.looks)).setCell ⟨r, 9, none⟩ (.int .i64 m.hits)).setCell ⟨r, 10, none⟩ (.slice ma m.memo.length mc) := ⟨_, rfl⟩
    rw [← hWF]
    have hfin := HFN.out.fin HSZ.out HKS.out hWF
    obtain ⟨r0, r1, r2, r3, r4, r5, r6, r7, r8, r9, r10, z0, z1, z2, z3, z4, z5, z6, z7, z8, z9, z10⟩ := hfin.1.all
    exact bodyPost_ret (v := .agg #[.slice ra m.row.length rc, .int .i64 m.N, .string m.S, .int .i64 m.room, .slice va m.vals.length vc, .int .i64 x, .bool m.over, .int .i64 m.steps, .int .i64 m.looks, .int .i64 m.hits, .slice ma m.memo.length mc]) (by simp [results, Tryz.results54, go_sem, r0, r1, r2, r3, r4, r5, r6, r7, r8, r9, r10]) rfl hfin.2
  by_cases hy1e : y = 1
  · skip
    have yb0 : (y == 0) = false := beq_eq_false_iff_ne.2 (by omega)
    have yb1 : (y == 1) = true := beq_iff_eq.2 hy1e
    clear hy1e
    obtain ⟨q0, q1, q2, q3, q4, q5, q6, q7, q8, q9, q10, f0, f1, f2, f3, f4, f5, f6, f7, f8, f9, f10⟩ := HS5.out.fn.mac.all
    go_upto_region 15 with fail
    clear q0 f0 q1 f1 q2 f2 q3 f3 q4 f4 q5 f5 q6 f6 q7 f7 q8 f8 q9 f9 q10 f10
    obtain ⟨WA, hWA⟩ : ∃ WA, WA = w5.setCell ⟨q, 6, none⟩ (.bool (!m.over)) := ⟨_, rfl⟩
    have HFN : Hid (Fn w WA b a len cap r q B { m with over := !m.over } ra va ma rc vc mc) := by
      rw [hWA]
      obtain ⟨p1, p2, p3, p4, p5, p6, p7⟩ := HS5.out.fn.put HS5.out.Bq HS5.out.qr 6 (.bool (!m.over))
      exact ⟨p1, p2, p3, p4, p5, p6, p7, HS5.out.fn.rw_, HS5.out.fn.bw, HS5.out.fn.rB, HS5.out.fn.low⟩
    rw [← hWA]
    clear hWA HS5
    obtain ⟨q0, q1, q2, q3, q4, q5, q6, q7, q8, q9, q10, f0, f1, f2, f3, f4, f5, f6, f7, f8, f9, f10⟩ := HFN.out.mac.all
    obtain ⟨r0, r1, r2, r3, r4, r5, r6, r7, r8, r9, r10, z0, z1, z2, z3, z4, z5, z6, z7, z8, z9, z10⟩ := HFN.out.res.all
    go_wp2
    clear q0 f0 r0 z0 q1 f1 r1 z1 q2 f2 r2 z2 q3 f3 r3 z3 q4 f4 r4 z4 q5 f5 r5 z5 q6 f6 r6 z6 q7 f7 r7 z7 q8 f8 r8 z8 q9 f9 r9 z9 q10 f10 r10 z10
    obtain ⟨WF, hWF⟩ : ∃ WF, WF = (((((((((((WA).setCell ⟨r, 0, none⟩ (.slice ra m.row.length rc)).setCell ⟨r, 1, none⟩ (.int .i64 m.N)).setCell ⟨r, 2, none⟩ (.string m.S)).setCell ⟨r, 3, none⟩ (.int .i64 m.room)).setCell ⟨r, 4, none⟩ (.slice va m.vals.length vc)).setCell ⟨r, 5, none⟩ (.int .i64 m.ret)).setCell ⟨r, 6, none⟩ (.bool (!m.over))).setCell ⟨r, 7, none⟩ (.int .i64 m.steps)).setCell ⟨r, 8, none⟩ (.int .i64 m.looks)).setCell ⟨r, 9, none⟩ (.int .i64 m.hits)).setCell ⟨r, 10, none⟩ (.slice ma m.memo.length mc) := ⟨_, rfl⟩
    rw [← hWF]
    have hfin := HFN.out.fin HSZ.out HKS.out hWF
    obtain ⟨r0, r1, r2, r3, r4, r5, r6, r7, r8, r9, r10, z0, z1, z2, z3, z4, z5, z6, z7, z8, z9, z10⟩ := hfin.1.all
    exact bodyPost_ret (v := .agg #[.slice ra m.row.length rc, .int .i64 m.N, .string m.S, .int .i64 m.room, .slice va m.vals.length vc, .int .i64 m.ret, .bool (!m.over), .int .i64 m.steps, .int .i64 m.looks, .int .i64 m.hits, .slice ma m.memo.length mc]) (by simp [results, Tryz.results54, go_sem, r0, r1, r2, r3, r4, r5, r6, r7, r8, r9, r10]) rfl hfin.2
  by_cases hy2e : y = 2
  · skip
    have yb0 : (y == 0) = false := beq_eq_false_iff_ne.2 (by omega)
    have yb1 : (y == 1) = false := beq_eq_false_iff_ne.2 (by omega)
    have yb2 : (y == 2) = true := beq_iff_eq.2 hy2e
    clear hy2e
    go_wp2_with fail
    refine wp_region_held_drew (S := fun _ => True) (by kernel_rfl) trivial (fun hHeld => ?_)
    refine wpAnyH_take (i := 0) (v := ?_) rfl (by kernel_rfl) (by kernel_rfl) (by kernel_rfl) (fun _ _ _ h => h) (Or.inl ⟨by rfl, ?_⟩) hHeld ?_
    rotate_left
    · (intro v9 hS9; go_simp; try with_reducible rfl)
    try simp only [Act.put, List.setIfInBounds_toArray, List.set_cons_zero, List.set_cons_succ, List.getElem_toArray, List.getElem_cons_zero, List.getElem_cons_succ]
    refine wpAnyH_take (i := 2) (v := ?_) rfl (by kernel_rfl) (by kernel_rfl) (by kernel_rfl) (fun _ _ _ h => h) (Or.inl ⟨by rfl, ?_⟩) hHeld ?_
    rotate_left
    · (intro v9 hS9; go_simp; try with_reducible rfl)
    try simp only [Act.put, List.setIfInBounds_toArray, List.set_cons_zero, List.set_cons_succ, List.getElem_toArray, List.getElem_cons_zero, List.getElem_cons_succ]
    refine wpAnyH_ready (rs := [1, 3]) (by kernel_rfl) (by simp) ?_
    refine (AllReadyH.cons rfl (fun K hK => ?_) (AllReadyH.cons rfl (fun K hK => ?_) AllReadyH.nil))
    ·
      obtain ⟨x0, x1, x2, x3, x4, x5, x6, x7, x8, x9, x10, k0, k1, k2, k3, k4, k5, k6, k7, k8, k9, k10⟩ := (HS5.out.drew.fn.mac).all
      go_simp
      clear x0 k0 x1 k1 x2 k2 x3 k3 x4 k4 x5 k5 x6 k6 x7 k7 x8 k8 x9 k9 x10 k10
      refine hK.out _ _ trivial (fun hNext => ?_)
      clear hK K hHeld
      have hHeld := hNext
      clear hNext
      try simp only [Act.put, List.setIfInBounds_toArray, List.set_cons_zero, List.set_cons_succ, List.getElem_toArray, List.getElem_cons_zero, List.getElem_cons_succ]
      refine wpAnyH_ready (rs := [3]) (by kernel_rfl) (by simp) ?_
      refine (AllReadyH.cons rfl (fun K hK => ?_) AllReadyH.nil)
      go_simp
      go_wp2_with (go_at_call 25; refine (Dr1.below _ b a len cap 3 (by omega) (by omega) HS5.out.drew.fn.cur).mono ?_; rintro e w6 ⟨⟨x, rfl, hx0, hx1⟩, hc6, ho6⟩)
      have HS6 : Hid (Sx w w6 b a len cap r q B m ra va ma rc vc mc) := HS5.out.drew.only hc6 ho6
      have hBs : B ≤ w6.heap.size := by have h1 := HS6.out.Bq; have h2 := HS6.out.fn.mac.lt (by simp); omega
      have HOV : Hid (Ows (w6.alloc (.cells #[.int .i64 x] 3)) B (.slice va m.vals.length vc) m.vals) := HS6.out.fn.vals.kept (S := fun _ => False) ((Kept.refl _ _).alloc _) (fun _ _ h => h)
      clear hc6 ho6
      refine hK.out _ _ trivial (fun hNext => ?_)
      clear hK K hHeld
      have hHeld := hNext
      clear hNext
      try simp only [Act.put, List.setIfInBounds_toArray, List.set_cons_zero, List.set_cons_succ, List.getElem_toArray, List.getElem_cons_zero, List.getElem_cons_succ]
      refine wpAnyH_ready (rs := [4]) (by kernel_rfl) (by simp) ?_
      refine (AllReadyH.cons rfl (fun K hK => ?_) AllReadyH.nil)
      go_simp
      refine hK.out _ _ trivial (fun hNext => ?_)
      clear hK K hHeld
      have hHeld := hNext
      clear hNext
      try simp only [Act.put, List.setIfInBounds_toArray, List.set_cons_zero, List.set_cons_succ, List.getElem_toArray, List.getElem_cons_zero, List.getElem_cons_succ]
      refine wpAnyH_ready (rs := [5]) (by kernel_rfl) (by simp) ?_
      refine (AllReadyH.cons rfl (fun K hK => ?_) AllReadyH.nil)
      refine step_int _ (by rfl) _ _ (by rfl) B (.slice va m.vals.length vc) m.vals x (by rfl) w6.heap.size (by rfl) (by simp) HOV.out (by simp; omega) HML.out.2.1 ?_
      intro g9 cp9 w9 hO9 hK9 hg9
      have HG9 : Hid (Mf w9 q [.slice ra m.row.length rc, .int .i64 m.N, .string m.S, .int .i64 m.room, .slice va m.vals.length vc, .int .i64 m.ret, .bool m.over, .int .i64 m.steps, .int .i64 m.looks, .int .i64 m.hits, .slice ma m.memo.length mc] ∧ Fn w (w9.setCell ⟨q, 4, none⟩ (.slice (some ⟨g9, 0, none⟩) (m.vals.length + 1) cp9)) b a len cap r q B { m with vals := m.vals ++ [x] } ra (some ⟨g9, 0, none⟩) ma rc cp9 mc) := HS6.out.grow_vals g9 cp9 ((((Kept.refl (At va) w6).alloc _)).trans (hK9.mono (fun k hk => at_own hk))) hO9 (hg9.imp at_own (fun h => by simp at h; omega))
      obtain ⟨s0, s1, s2, s3, s4, s5, s6, s7, s8, s9, s10, t0, t1, t2, t3, t4, t5, t6, t7, t8, t9, t10⟩ := HG9.out.1.all
      clear hO9 hK9 hg9
      refine hK.out _ _ trivial (fun hNext => ?_)
      clear hK K hHeld
      have hHeld := hNext
      clear hNext
      try simp only [Act.put, List.setIfInBounds_toArray, List.set_cons_zero, List.set_cons_succ, List.getElem_toArray, List.getElem_cons_zero, List.getElem_cons_succ]
      refine wpAnyH_take (i := 6) (v := ?_) rfl (by kernel_rfl) (by kernel_rfl) (by kernel_rfl) (fun _ _ _ h => h) (Or.inl ⟨by rfl, ?_⟩) hHeld ?_
      rotate_left
      · (intro v9 hS9; go_simp; try with_reducible rfl)
      try simp only [Act.put, List.setIfInBounds_toArray, List.set_cons_zero, List.set_cons_succ, List.getElem_toArray, List.getElem_cons_zero, List.getElem_cons_succ]
      refine wpAnyH_ready (rs := [7]) (by kernel_rfl) (by simp) ?_
      refine (AllReadyH.cons rfl (fun K hK => ?_) AllReadyH.nil)
      go_simp
      refine hK.out _ _ trivial (fun hNext => ?_)
      clear hK K hHeld
      have hHeld := hNext
      clear hNext
      try simp only [Act.put, List.setIfInBounds_toArray, List.set_cons_zero, List.set_cons_succ, List.getElem_toArray, List.getElem_cons_zero, List.getElem_cons_succ]
      refine wpAnyH_done (by kernel_rfl) ?_ _
      clear hHeld
      go_upto_region 15 with fail
      clear HS5 HS6 HOV s0 t0 s1 t1 s2 t2 s3 t3 s4 t4 s5 t5 s6 t6 s7 t7 s8 t8 s9 t9 s10 t10
      obtain ⟨WA, hWA⟩ : ∃ WA, WA = w9.setCell ⟨q, 4, none⟩ (.slice (some ⟨g9, 0, none⟩) (m.vals.length + 1) cp9) := ⟨_, rfl⟩
      have HFN : Hid (Fn w WA b a len cap r q B { m with vals := m.vals ++ [x] } ra (some ⟨g9, 0, none⟩) ma rc cp9 mc) := by rw [hWA]; exact HG9.out.2
      rw [← hWA]
      clear hWA HG9
      have HEL : Hid (m.vals.length + 1 = (m.vals ++ [x]).length) := by show _ = _; simp
      have hmac : Mf WA q [.slice ra m.row.length rc, .int .i64 m.N, .string m.S, .int .i64 m.room, .slice (some ⟨g9, 0, none⟩) (m.vals.length + 1) cp9, .int .i64 m.ret, .bool m.over, .int .i64 m.steps, .int .i64 m.looks, .int .i64 m.hits, .slice ma m.memo.length mc] := by
        rw [HEL.out]
        exact HFN.out.mac
      obtain ⟨q0, q1, q2, q3, q4, q5, q6, q7, q8, q9, q10, f0, f1, f2, f3, f4, f5, f6, f7, f8, f9, f10⟩ := hmac.all
      clear hmac
      obtain ⟨r0, r1, r2, r3, r4, r5, r6, r7, r8, r9, r10, z0, z1, z2, z3, z4, z5, z6, z7, z8, z9, z10⟩ := HFN.out.res.all
      go_wp2
      clear q0 f0 r0 z0 q1 f1 r1 z1 q2 f2 r2 z2 q3 f3 r3 z3 q4 f4 r4 z4 q5 f5 r5 z5 q6 f6 r6 z6 q7 f7 r7 z7 q8 f8 r8 z8 q9 f9 r9 z9 q10 f10 r10 z10
      obtain ⟨WF, hWF⟩ : ∃ WF, WF = (((((((((((WA).setCell ⟨r, 0, none⟩ (.slice ra m.row.length rc)).setCell ⟨r, 1, none⟩ (.int .i64 m.N)).setCell ⟨r, 2, none⟩ (.string m.S)).setCell ⟨r, 3, none⟩ (.int .i64 m.room)).setCell ⟨r, 4, none⟩ (.slice (some ⟨g9, 0, none⟩) (m.vals.length + 1) cp9)).setCell ⟨r, 5, none⟩ (.int .i64 m.ret)).setCell ⟨r, 6, none⟩ (.bool m.over)).setCell ⟨r, 7, none⟩ (.int .i64 m.steps)).setCell ⟨r, 8, none⟩ (.int .i64 m.looks)).setCell ⟨r, 9, none⟩ (.int .i64 m.hits)).setCell ⟨r, 10, none⟩ (.slice ma m.memo.length mc) := ⟨_, rfl⟩
      rw [← hWF]
      have hfin := HFN.out.fin HSZ.out HKS.out (hWF.trans (by rw [HEL.out]))
      obtain ⟨r0, r1, r2, r3, r4, r5, r6, r7, r8, r9, r10, z0, z1, z2, z3, z4, z5, z6, z7, z8, z9, z10⟩ := hfin.1.all
      exact bodyPost_ret (v := .agg #[.slice ra m.row.length rc, .int .i64 m.N, .string m.S, .int .i64 m.room, .slice (some ⟨g9, 0, none⟩) (m.vals.length + 1) cp9, .int .i64 m.ret, .bool m.over, .int .i64 m.steps, .int .i64 m.looks, .int .i64 m.hits, .slice ma m.memo.length mc]) (by simp [results, Tryz.results54, go_sem, r0, r1, r2, r3, r4, r5, r6, r7, r8, r9, r10]) rfl (by rw [HEL.out]; exact hfin.2)
    ·
      go_simp
      go_wp2_with (go_at_call 25; refine (Dr1.below _ b a len cap 3 (by omega) (by omega) HS5.out.drew.fn.cur).mono ?_; rintro e w6 ⟨⟨x, rfl, hx0, hx1⟩, hc6, ho6⟩)
      have HS6 : Hid (Sx w w6 b a len cap r q B m ra va ma rc vc mc) := HS5.out.drew.only hc6 ho6
      have hBs : B ≤ w6.heap.size := by have h1 := HS6.out.Bq; have h2 := HS6.out.fn.mac.lt (by simp); omega
      have HOV : Hid (Ows (w6.alloc (.cells #[.int .i64 x] 3)) B (.slice va m.vals.length vc) m.vals) := HS6.out.fn.vals.kept (S := fun _ => False) ((Kept.refl _ _).alloc _) (fun _ _ h => h)
      clear hc6 ho6
      refine hK.out _ _ trivial (fun hNext => ?_)
      clear hK K hHeld
      have hHeld := hNext
      clear hNext
      try simp only [Act.put, List.setIfInBounds_toArray, List.set_cons_zero, List.set_cons_succ, List.getElem_toArray, List.getElem_cons_zero, List.getElem_cons_succ]
      refine wpAnyH_ready (rs := [1, 4]) (by kernel_rfl) (by simp) ?_
      refine (AllReadyH.cons rfl (fun K hK => ?_) (AllReadyH.cons rfl (fun K hK => ?_) AllReadyH.nil))
      ·
        obtain ⟨x0, x1, x2, x3, x4, x5, x6, x7, x8, x9, x10, k0, k1, k2, k3, k4, k5, k6, k7, k8, k9, k10⟩ := (HS6.out.fn.mac).all
        go_simp
        clear x0 k0 x1 k1 x2 k2 x3 k3 x4 k4 x5 k5 x6 k6 x7 k7 x8 k8 x9 k9 x10 k10
        refine hK.out _ _ trivial (fun hNext => ?_)
        clear hK K hHeld
        have hHeld := hNext
        clear hNext
        try simp only [Act.put, List.setIfInBounds_toArray, List.set_cons_zero, List.set_cons_succ, List.getElem_toArray, List.getElem_cons_zero, List.getElem_cons_succ]
        refine wpAnyH_ready (rs := [4]) (by kernel_rfl) (by simp) ?_
        refine (AllReadyH.cons rfl (fun K hK => ?_) AllReadyH.nil)
        go_simp
        refine hK.out _ _ trivial (fun hNext => ?_)
        clear hK K hHeld
        have hHeld := hNext
        clear hNext
        try simp only [Act.put, List.setIfInBounds_toArray, List.set_cons_zero, List.set_cons_succ, List.getElem_toArray, List.getElem_cons_zero, List.getElem_cons_succ]
        refine wpAnyH_ready (rs := [5]) (by kernel_rfl) (by simp) ?_
        refine (AllReadyH.cons rfl (fun K hK => ?_) AllReadyH.nil)
        refine step_int _ (by rfl) _ _ (by rfl) B (.slice va m.vals.length vc) m.vals x (by rfl) w6.heap.size (by rfl) (by simp) HOV.out (by simp; omega) HML.out.2.1 ?_
        intro g9 cp9 w9 hO9 hK9 hg9
        have HG9 : Hid (Mf w9 q [.slice ra m.row.length rc, .int .i64 m.N, .string m.S, .int .i64 m.room, .slice va m.vals.length vc, .int .i64 m.ret, .bool m.over, .int .i64 m.steps, .int .i64 m.looks, .int .i64 m.hits, .slice ma m.memo.length mc] ∧ Fn w (w9.setCell ⟨q, 4, none⟩ (.slice (some ⟨g9, 0, none⟩) (m.vals.length + 1) cp9)) b a len cap r q B { m with vals := m.vals ++ [x] } ra (some ⟨g9, 0, none⟩) ma rc cp9 mc) := HS6.out.grow_vals g9 cp9 ((((Kept.refl (At va) w6).alloc _)).trans (hK9.mono (fun k hk => at_own hk))) hO9 (hg9.imp at_own (fun h => by simp at h; omega))
        obtain ⟨s0, s1, s2, s3, s4, s5, s6, s7, s8, s9, s10, t0, t1, t2, t3, t4, t5, t6, t7, t8, t9, t10⟩ := HG9.out.1.all
        clear hO9 hK9 hg9
        refine hK.out _ _ trivial (fun hNext => ?_)
        clear hK K hHeld
        have hHeld := hNext
        clear hNext
        try simp only [Act.put, List.setIfInBounds_toArray, List.set_cons_zero, List.set_cons_succ, List.getElem_toArray, List.getElem_cons_zero, List.getElem_cons_succ]
        refine wpAnyH_take (i := 6) (v := ?_) rfl (by kernel_rfl) (by kernel_rfl) (by kernel_rfl) (fun _ _ _ h => h) (Or.inl ⟨by rfl, ?_⟩) hHeld ?_
        rotate_left
        · (intro v9 hS9; go_simp; try with_reducible rfl)
        try simp only [Act.put, List.setIfInBounds_toArray, List.set_cons_zero, List.set_cons_succ, List.getElem_toArray, List.getElem_cons_zero, List.getElem_cons_succ]
        refine wpAnyH_ready (rs := [7]) (by kernel_rfl) (by simp) ?_
        refine (AllReadyH.cons rfl (fun K hK => ?_) AllReadyH.nil)
        go_simp
        refine hK.out _ _ trivial (fun hNext => ?_)
        clear hK K hHeld
        have hHeld := hNext
        clear hNext
        try simp only [Act.put, List.setIfInBounds_toArray, List.set_cons_zero, List.set_cons_succ, List.getElem_toArray, List.getElem_cons_zero, List.getElem_cons_succ]
        refine wpAnyH_done (by kernel_rfl) ?_ _
        clear hHeld
        go_upto_region 15 with fail
        clear HS5 HS6 HOV s0 t0 s1 t1 s2 t2 s3 t3 s4 t4 s5 t5 s6 t6 s7 t7 s8 t8 s9 t9 s10 t10
        obtain ⟨WA, hWA⟩ : ∃ WA, WA = w9.setCell ⟨q, 4, none⟩ (.slice (some ⟨g9, 0, none⟩) (m.vals.length + 1) cp9) := ⟨_, rfl⟩
        have HFN : Hid (Fn w WA b a len cap r q B { m with vals := m.vals ++ [x] } ra (some ⟨g9, 0, none⟩) ma rc cp9 mc) := by rw [hWA]; exact HG9.out.2
        rw [← hWA]
        clear hWA HG9
        have HEL : Hid (m.vals.length + 1 = (m.vals ++ [x]).length) := by show _ = _; simp
        have hmac : Mf WA q [.slice ra m.row.length rc, .int .i64 m.N, .string m.S, .int .i64 m.room, .slice (some ⟨g9, 0, none⟩) (m.vals.length + 1) cp9, .int .i64 m.ret, .bool m.over, .int .i64 m.steps, .int .i64 m.looks, .int .i64 m.hits, .slice ma m.memo.length mc] := by
          rw [HEL.out]
          exact HFN.out.mac
        obtain ⟨q0, q1, q2, q3, q4, q5, q6, q7, q8, q9, q10, f0, f1, f2, f3, f4, f5, f6, f7, f8, f9, f10⟩ := hmac.all
        clear hmac
        obtain ⟨r0, r1, r2, r3, r4, r5, r6, r7, r8, r9, r10, z0, z1, z2, z3, z4, z5, z6, z7, z8, z9, z10⟩ := HFN.out.res.all
        go_wp2
        clear q0 f0 r0 z0 q1 f1 r1 z1 q2 f2 r2 z2 q3 f3 r3 z3 q4 f4 r4 z4 q5 f5 r5 z5 q6 f6 r6 z6 q7 f7 r7 z7 q8 f8 r8 z8 q9 f9 r9 z9 q10 f10 r10 z10
        obtain ⟨WF, hWF⟩ : ∃ WF, WF = (((((((((((WA).setCell ⟨r, 0, none⟩ (.slice ra m.row.length rc)).setCell ⟨r, 1, none⟩ (.int .i64 m.N)).setCell ⟨r, 2, none⟩ (.string m.S)).setCell ⟨r, 3, none⟩ (.int .i64 m.room)).setCell ⟨r, 4, none⟩ (.slice (some ⟨g9, 0, none⟩) (m.vals.length + 1) cp9)).setCell ⟨r, 5, none⟩ (.int .i64 m.ret)).setCell ⟨r, 6, none⟩ (.bool m.over)).setCell ⟨r, 7, none⟩ (.int .i64 m.steps)).setCell ⟨r, 8, none⟩ (.int .i64 m.looks)).setCell ⟨r, 9, none⟩ (.int .i64 m.hits)).setCell ⟨r, 10, none⟩ (.slice ma m.memo.length mc) := ⟨_, rfl⟩
        rw [← hWF]
        have hfin := HFN.out.fin HSZ.out HKS.out (hWF.trans (by rw [HEL.out]))
        obtain ⟨r0, r1, r2, r3, r4, r5, r6, r7, r8, r9, r10, z0, z1, z2, z3, z4, z5, z6, z7, z8, z9, z10⟩ := hfin.1.all
        exact bodyPost_ret (v := .agg #[.slice ra m.row.length rc, .int .i64 m.N, .string m.S, .int .i64 m.room, .slice (some ⟨g9, 0, none⟩) (m.vals.length + 1) cp9, .int .i64 m.ret, .bool m.over, .int .i64 m.steps, .int .i64 m.looks, .int .i64 m.hits, .slice ma m.memo.length mc]) (by simp [results, Tryz.results54, go_sem, r0, r1, r2, r3, r4, r5, r6, r7, r8, r9, r10]) rfl (by rw [HEL.out]; exact hfin.2)
      ·
        go_simp
        refine hK.out _ _ trivial (fun hNext => ?_)
        clear hK K hHeld
        have hHeld := hNext
        clear hNext
        try simp only [Act.put, List.setIfInBounds_toArray, List.set_cons_zero, List.set_cons_succ, List.getElem_toArray, List.getElem_cons_zero, List.getElem_cons_succ]
        refine wpAnyH_ready (rs := [1]) (by kernel_rfl) (by simp) ?_
        refine (AllReadyH.cons rfl (fun K hK => ?_) AllReadyH.nil)
        obtain ⟨x0, x1, x2, x3, x4, x5, x6, x7, x8, x9, x10, k0, k1, k2, k3, k4, k5, k6, k7, k8, k9, k10⟩ := ((HS6.out.fn.mac.alloc (.cells #[.int .i64 x] 3))).all
        go_simp
        clear x0 k0 x1 k1 x2 k2 x3 k3 x4 k4 x5 k5 x6 k6 x7 k7 x8 k8 x9 k9 x10 k10
        refine hK.out _ _ trivial (fun hNext => ?_)
        clear hK K hHeld
        have hHeld := hNext
        clear hNext
        try simp only [Act.put, List.setIfInBounds_toArray, List.set_cons_zero, List.set_cons_succ, List.getElem_toArray, List.getElem_cons_zero, List.getElem_cons_succ]
        refine wpAnyH_ready (rs := [5]) (by kernel_rfl) (by simp) ?_
        refine (AllReadyH.cons rfl (fun K hK => ?_) AllReadyH.nil)
        refine step_int _ (by rfl) _ _ (by rfl) B (.slice va m.vals.length vc) m.vals x (by rfl) w6.heap.size (by rfl) (by simp) HOV.out (by simp; omega) HML.out.2.1 ?_
        intro g9 cp9 w9 hO9 hK9 hg9
        have HG9 : Hid (Mf w9 q [.slice ra m.row.length rc, .int .i64 m.N, .string m.S, .int .i64 m.room, .slice va m.vals.length vc, .int .i64 m.ret, .bool m.over, .int .i64 m.steps, .int .i64 m.looks, .int .i64 m.hits, .slice ma m.memo.length mc] ∧ Fn w (w9.setCell ⟨q, 4, none⟩ (.slice (some ⟨g9, 0, none⟩) (m.vals.length + 1) cp9)) b a len cap r q B { m with vals := m.vals ++ [x] } ra (some ⟨g9, 0, none⟩) ma rc cp9 mc) := HS6.out.grow_vals g9 cp9 ((((Kept.refl (At va) w6).alloc _)).trans (hK9.mono (fun k hk => at_own hk))) hO9 (hg9.imp at_own (fun h => by simp at h; omega))
        obtain ⟨s0, s1, s2, s3, s4, s5, s6, s7, s8, s9, s10, t0, t1, t2, t3, t4, t5, t6, t7, t8, t9, t10⟩ := HG9.out.1.all
        clear hO9 hK9 hg9
        refine hK.out _ _ trivial (fun hNext => ?_)
        clear hK K hHeld
        have hHeld := hNext
        clear hNext
        try simp only [Act.put, List.setIfInBounds_toArray, List.set_cons_zero, List.set_cons_succ, List.getElem_toArray, List.getElem_cons_zero, List.getElem_cons_succ]
        refine wpAnyH_take (i := 6) (v := ?_) rfl (by kernel_rfl) (by kernel_rfl) (by kernel_rfl) (fun _ _ _ h => h) (Or.inl ⟨by rfl, ?_⟩) hHeld ?_
        rotate_left
        · (intro v9 hS9; go_simp; try with_reducible rfl)
        try simp only [Act.put, List.setIfInBounds_toArray, List.set_cons_zero, List.set_cons_succ, List.getElem_toArray, List.getElem_cons_zero, List.getElem_cons_succ]
        refine wpAnyH_ready (rs := [7]) (by kernel_rfl) (by simp) ?_
        refine (AllReadyH.cons rfl (fun K hK => ?_) AllReadyH.nil)
        go_simp
        refine hK.out _ _ trivial (fun hNext => ?_)
        clear hK K hHeld
        have hHeld := hNext
        clear hNext
        try simp only [Act.put, List.setIfInBounds_toArray, List.set_cons_zero, List.set_cons_succ, List.getElem_toArray, List.getElem_cons_zero, List.getElem_cons_succ]
        refine wpAnyH_done (by kernel_rfl) ?_ _
        clear hHeld
        go_upto_region 15 with fail
        clear HS5 HS6 HOV s0 t0 s1 t1 s2 t2 s3 t3 s4 t4 s5 t5 s6 t6 s7 t7 s8 t8 s9 t9 s10 t10
        obtain ⟨WA, hWA⟩ : ∃ WA, WA = w9.setCell ⟨q, 4, none⟩ (.slice (some ⟨g9, 0, none⟩) (m.vals.length + 1) cp9) := ⟨_, rfl⟩
        have HFN : Hid (Fn w WA b a len cap r q B { m with vals := m.vals ++ [x] } ra (some ⟨g9, 0, none⟩) ma rc cp9 mc) := by rw [hWA]; exact HG9.out.2
        rw [← hWA]
        clear hWA HG9
        have HEL : Hid (m.vals.length + 1 = (m.vals ++ [x]).length) := by show _ = _; simp
        have hmac : Mf WA q [.slice ra m.row.length rc, .int .i64 m.N, .string m.S, .int .i64 m.room, .slice (some ⟨g9, 0, none⟩) (m.vals.length + 1) cp9, .int .i64 m.ret, .bool m.over, .int .i64 m.steps, .int .i64 m.looks, .int .i64 m.hits, .slice ma m.memo.length mc] := by
          rw [HEL.out]
          exact HFN.out.mac
        obtain ⟨q0, q1, q2, q3, q4, q5, q6, q7, q8, q9, q10, f0, f1, f2, f3, f4, f5, f6, f7, f8, f9, f10⟩ := hmac.all
        clear hmac
        obtain ⟨r0, r1, r2, r3, r4, r5, r6, r7, r8, r9, r10, z0, z1, z2, z3, z4, z5, z6, z7, z8, z9, z10⟩ := HFN.out.res.all
        go_wp2
        clear q0 f0 r0 z0 q1 f1 r1 z1 q2 f2 r2 z2 q3 f3 r3 z3 q4 f4 r4 z4 q5 f5 r5 z5 q6 f6 r6 z6 q7 f7 r7 z7 q8 f8 r8 z8 q9 f9 r9 z9 q10 f10 r10 z10
        obtain ⟨WF, hWF⟩ : ∃ WF, WF = (((((((((((WA).setCell ⟨r, 0, none⟩ (.slice ra m.row.length rc)).setCell ⟨r, 1, none⟩ (.int .i64 m.N)).setCell ⟨r, 2, none⟩ (.string m.S)).setCell ⟨r, 3, none⟩ (.int .i64 m.room)).setCell ⟨r, 4, none⟩ (.slice (some ⟨g9, 0, none⟩) (m.vals.length + 1) cp9)).setCell ⟨r, 5, none⟩ (.int .i64 m.ret)).setCell ⟨r, 6, none⟩ (.bool m.over)).setCell ⟨r, 7, none⟩ (.int .i64 m.steps)).setCell ⟨r, 8, none⟩ (.int .i64 m.looks)).setCell ⟨r, 9, none⟩ (.int .i64 m.hits)).setCell ⟨r, 10, none⟩ (.slice ma m.memo.length mc) := ⟨_, rfl⟩
        rw [← hWF]
        have hfin := HFN.out.fin HSZ.out HKS.out (hWF.trans (by rw [HEL.out]))
        obtain ⟨r0, r1, r2, r3, r4, r5, r6, r7, r8, r9, r10, z0, z1, z2, z3, z4, z5, z6, z7, z8, z9, z10⟩ := hfin.1.all
        exact bodyPost_ret (v := .agg #[.slice ra m.row.length rc, .int .i64 m.N, .string m.S, .int .i64 m.room, .slice (some ⟨g9, 0, none⟩) (m.vals.length + 1) cp9, .int .i64 m.ret, .bool m.over, .int .i64 m.steps, .int .i64 m.looks, .int .i64 m.hits, .slice ma m.memo.length mc]) (by simp [results, Tryz.results54, go_sem, r0, r1, r2, r3, r4, r5, r6, r7, r8, r9, r10]) rfl (by rw [HEL.out]; exact hfin.2)
  by_cases hy3e : y = 3
  · skip
    have yb0 : (y == 0) = false := beq_eq_false_iff_ne.2 (by omega)
    have yb1 : (y == 1) = false := beq_eq_false_iff_ne.2 (by omega)
    have yb2 : (y == 2) = false := beq_eq_false_iff_ne.2 (by omega)
    have yb3 : (y == 3) = true := beq_iff_eq.2 hy3e
    clear hy3e
    obtain ⟨q0, q1, q2, q3, q4, q5, q6, q7, q8, q9, q10, f0, f1, f2, f3, f4, f5, f6, f7, f8, f9, f10⟩ := HS5.out.fn.mac.all
    have hBs : B ≤ w5.heap.size := by have := HS5.out.Bq; have := HS5.out.fn.mac.lt (by simp); omega
    go_upto_region 15 with (at_builtin; go_must (refine app_bool _ rfl _ _ rfl B (.slice ra m.row.length rc) m.row true rfl rfl HS5.out.fn.row hBs HML.out.1 ?_; intro g9 cp9 w9 hO9 hK9 hg9; have HG9 : Hid (Mf w9 q [.slice ra m.row.length rc, .int .i64 m.N, .string m.S, .int .i64 m.room, .slice va m.vals.length vc, .int .i64 m.ret, .bool m.over, .int .i64 m.steps, .int .i64 m.looks, .int .i64 m.hits, .slice ma m.memo.length mc] ∧ Fn w (w9.setCell ⟨q, 0, none⟩ (.slice (some ⟨g9, 0, none⟩) (m.row.length + 1) cp9)) b a len cap r q B { m with row := m.row ++ [true] } (some ⟨g9, 0, none⟩) va ma cp9 vc mc) := HS5.out.grow_row g9 cp9 (hK9.mono (fun k hk => at_own hk)) hO9 (hg9.imp at_own (fun h => h)); obtain ⟨s0, s1, s2, s3, s4, s5, s6, s7, s8, s9, s10, t0, t1, t2, t3, t4, t5, t6, t7, t8, t9, t10⟩ := HG9.out.1.all; clear hO9 hK9 hg9))
    clear HS5 q0 f0 q1 f1 q2 f2 q3 f3 q4 f4 q5 f5 q6 f6 q7 f7 q8 f8 q9 f9 q10 f10 s0 t0 s1 t1 s2 t2 s3 t3 s4 t4 s5 t5 s6 t6 s7 t7 s8 t8 s9 t9 s10 t10
    obtain ⟨WA, hWA⟩ : ∃ WA, WA = w9.setCell ⟨q, 0, none⟩ (.slice (some ⟨g9, 0, none⟩) (m.row.length + 1) cp9) := ⟨_, rfl⟩
    have HFN : Hid (Fn w WA b a len cap r q B { m with row := m.row ++ [true] } (some ⟨g9, 0, none⟩) va ma cp9 vc mc) := by rw [hWA]; exact HG9.out.2
    rw [← hWA]
    clear hWA HG9
    have HEL : Hid (m.row.length + 1 = (m.row ++ [true]).length) := by show _ = _; simp
    have hmac : Mf WA q [.slice (some ⟨g9, 0, none⟩) (m.row.length + 1) cp9, .int .i64 m.N, .string m.S, .int .i64 m.room, .slice va m.vals.length vc, .int .i64 m.ret, .bool m.over, .int .i64 m.steps, .int .i64 m.looks, .int .i64 m.hits, .slice ma m.memo.length mc] := by
      rw [HEL.out]
      exact HFN.out.mac
    obtain ⟨q0, q1, q2, q3, q4, q5, q6, q7, q8, q9, q10, f0, f1, f2, f3, f4, f5, f6, f7, f8, f9, f10⟩ := hmac.all
    clear hmac
    obtain ⟨r0, r1, r2, r3, r4, r5, r6, r7, r8, r9, r10, z0, z1, z2, z3, z4, z5, z6, z7, z8, z9, z10⟩ := HFN.out.res.all
    go_wp2
    clear q0 f0 r0 z0 q1 f1 r1 z1 q2 f2 r2 z2 q3 f3 r3 z3 q4 f4 r4 z4 q5 f5 r5 z5 q6 f6 r6 z6 q7 f7 r7 z7 q8 f8 r8 z8 q9 f9 r9 z9 q10 f10 r10 z10
    obtain ⟨WF, hWF⟩ : ∃ WF, WF = (((((((((((WA).setCell ⟨r, 0, none⟩ (.slice (some ⟨g9, 0, none⟩) (m.row.length + 1) cp9)).setCell ⟨r, 1, none⟩ (.int .i64 m.N)).setCell ⟨r, 2, none⟩ (.string m.S)).setCell ⟨r, 3, none⟩ (.int .i64 m.room)).setCell ⟨r, 4, none⟩ (.slice va m.vals.length vc)).setCell ⟨r, 5, none⟩ (.int .i64 m.ret)).setCell ⟨r, 6, none⟩ (.bool m.over)).setCell ⟨r, 7, none⟩ (.int .i64 m.steps)).setCell ⟨r, 8, none⟩ (.int .i64 m.looks)).setCell ⟨r, 9, none⟩ (.int .i64 m.hits)).setCell ⟨r, 10, none⟩ (.slice ma m.memo.length mc) := ⟨_, rfl⟩
    rw [← hWF]
    have hfin := HFN.out.fin HSZ.out HKS.out (hWF.trans (by rw [HEL.out]))
    obtain ⟨r0, r1, r2, r3, r4, r5, r6, r7, r8, r9, r10, z0, z1, z2, z3, z4, z5, z6, z7, z8, z9, z10⟩ := hfin.1.all
    exact bodyPost_ret (v := .agg #[.slice (some ⟨g9, 0, none⟩) (m.row.length + 1) cp9, .int .i64 m.N, .string m.S, .int .i64 m.room, .slice va m.vals.length vc, .int .i64 m.ret, .bool m.over, .int .i64 m.steps, .int .i64 m.looks, .int .i64 m.hits, .slice ma m.memo.length mc]) (by simp [results, Tryz.results54, go_sem, r0, r1, r2, r3, r4, r5, r6, r7, r8, r9, r10]) rfl (by rw [HEL.out]; exact hfin.2)
  by_cases hy4e : y = 4
  · skip
    have yb0 : (y == 0) = false := beq_eq_false_iff_ne.2 (by omega)
    have yb1 : (y == 1) = false := beq_eq_false_iff_ne.2 (by omega)
    have yb2 : (y == 2) = false := beq_eq_false_iff_ne.2 (by omega)
    have yb3 : (y == 3) = false := beq_eq_false_iff_ne.2 (by omega)
    have yb4 : (y == 4) = true := beq_iff_eq.2 hy4e
    clear hy4e
    go_wp2_with fail
    refine wp_region_held_drew (S := fun _ => True) (by kernel_rfl) trivial (fun hHeld => ?_)
    refine wpAnyH_take (i := 0) (v := ?_) rfl (by kernel_rfl) (by kernel_rfl) (by kernel_rfl) (fun _ _ _ h => h) (Or.inl ⟨by rfl, ?_⟩) hHeld ?_
    rotate_left
    · (intro v9 hS9; go_simp; try with_reducible rfl)
    try simp only [Act.put, List.setIfInBounds_toArray, List.set_cons_zero, List.set_cons_succ, List.getElem_toArray, List.getElem_cons_zero, List.getElem_cons_succ]
    refine wpAnyH_take (i := 2) (v := ?_) rfl (by kernel_rfl) (by kernel_rfl) (by kernel_rfl) (fun _ _ _ h => h) (Or.inl ⟨by rfl, ?_⟩) hHeld ?_
    rotate_left
    · (intro v9 hS9; go_simp; try with_reducible rfl)
    try simp only [Act.put, List.setIfInBounds_toArray, List.set_cons_zero, List.set_cons_succ, List.getElem_toArray, List.getElem_cons_zero, List.getElem_cons_succ]
    refine wpAnyH_ready (rs := [1, 3]) (by kernel_rfl) (by simp) ?_
    refine (AllReadyH.cons rfl (fun K hK => ?_) (AllReadyH.cons rfl (fun K hK => ?_) AllReadyH.nil))
    ·
      obtain ⟨x0, x1, x2, x3, x4, x5, x6, x7, x8, x9, x10, k0, k1, k2, k3, k4, k5, k6, k7, k8, k9, k10⟩ := (HS5.out.drew.fn.mac).all
      go_simp
      clear x0 k0 x1 k1 x2 k2 x3 k3 x4 k4 x5 k5 x6 k6 x7 k7 x8 k8 x9 k9 x10 k10
      refine hK.out _ _ trivial (fun hNext => ?_)
      clear hK K hHeld
      have hHeld := hNext
      clear hNext
      try simp only [Act.put, List.setIfInBounds_toArray, List.set_cons_zero, List.set_cons_succ, List.getElem_toArray, List.getElem_cons_zero, List.getElem_cons_succ]
      refine wpAnyH_ready (rs := [3]) (by kernel_rfl) (by simp) ?_
      refine (AllReadyH.cons rfl (fun K hK => ?_) AllReadyH.nil)
      go_simp
      go_wp2_with (go_at_call 25; refine (Dr1.below _ b a len cap 3 (by omega) (by omega) HS5.out.drew.fn.cur).mono ?_; rintro e w6 ⟨⟨x, rfl, hx0, hx1⟩, hc6, ho6⟩)
      have HS6 : Hid (Sx w w6 b a len cap r q B m ra va ma rc vc mc) := HS5.out.drew.only hc6 ho6
      have hBs : B ≤ w6.heap.size := by have h1 := HS6.out.Bq; have h2 := HS6.out.fn.mac.lt (by simp); omega
      have HOV : Hid (OwSo (w6.alloc (.cells #[.string ⟨#[120]⟩, .int .i64 x] 40)) B (.slice ma m.memo.length mc) m.memo) := HS6.out.fn.memo.kept (S := fun _ => False) ((Kept.refl _ _).alloc _) (fun _ _ _ _ _ h => h)
      clear hc6 ho6
      refine hK.out _ _ trivial (fun hNext => ?_)
      clear hK K hHeld
      have hHeld := hNext
      clear hNext
      try simp only [Act.put, List.setIfInBounds_toArray, List.set_cons_zero, List.set_cons_succ, List.getElem_toArray, List.getElem_cons_zero, List.getElem_cons_succ]
      refine wpAnyH_take (i := 4) (v := ?_) rfl (by kernel_rfl) (by kernel_rfl) (by kernel_rfl) (fun _ _ _ h => h) (Or.inl ⟨by rfl, ?_⟩) hHeld ?_
      rotate_left
      · (intro v9 hS9; go_simp; try with_reducible rfl)
      try simp only [Act.put, List.setIfInBounds_toArray, List.set_cons_zero, List.set_cons_succ, List.getElem_toArray, List.getElem_cons_zero, List.getElem_cons_succ]
      refine wpAnyH_ready (rs := [5]) (by kernel_rfl) (by simp) ?_
      refine (AllReadyH.cons rfl (fun K hK => ?_) AllReadyH.nil)
      go_simp
      refine hK.out _ _ trivial (fun hNext => ?_)
      clear hK K hHeld
      have hHeld := hNext
      clear hNext
      try simp only [Act.put, List.setIfInBounds_toArray, List.set_cons_zero, List.set_cons_succ, List.getElem_toArray, List.getElem_cons_zero, List.getElem_cons_succ]
      refine wpAnyH_ready (rs := [6]) (by kernel_rfl) (by simp) ?_
      refine (AllReadyH.cons rfl (fun K hK => ?_) AllReadyH.nil)
      refine step_so _ (by rfl) _ _ (by rfl) B ma mc m.memo (⟨⟨#[120]⟩, x⟩ : Sn) (by rfl) w6.heap.size (by rfl) (by simp) (by simp) HOV.out (by simp; omega) HML.out.2.2 ?_
      intro g9 p9 cp9 w9 hO9 hK9 hg9
      have HG9 : Hid (Mf w9 q [.slice ra m.row.length rc, .int .i64 m.N, .string m.S, .int .i64 m.room, .slice va m.vals.length vc, .int .i64 m.ret, .bool m.over, .int .i64 m.steps, .int .i64 m.looks, .int .i64 m.hits, .slice ma m.memo.length mc] ∧ Fn w (w9.setCell ⟨q, 10, none⟩ (.slice (some ⟨g9, p9, none⟩) (m.memo.length + 1) cp9)) b a len cap r q B { m with memo := m.memo ++ [(⟨⟨#[120]⟩, x⟩ : Sn)] } ra va (some ⟨g9, p9, none⟩) rc vc cp9) := HS6.out.grow_memo g9 p9 cp9 ((((Kept.refl (At ma) w6).alloc _)).trans hK9) hO9 (hg9.imp (fun h => h) (fun h => by simp at h; omega))
      obtain ⟨s0, s1, s2, s3, s4, s5, s6, s7, s8, s9, s10, t0, t1, t2, t3, t4, t5, t6, t7, t8, t9, t10⟩ := HG9.out.1.all
      clear hO9 hK9 hg9
      refine hK.out _ _ trivial (fun hNext => ?_)
      clear hK K hHeld
      have hHeld := hNext
      clear hNext
      try simp only [Act.put, List.setIfInBounds_toArray, List.set_cons_zero, List.set_cons_succ, List.getElem_toArray, List.getElem_cons_zero, List.getElem_cons_succ]
      refine wpAnyH_take (i := 7) (v := ?_) rfl (by kernel_rfl) (by kernel_rfl) (by kernel_rfl) (fun _ _ _ h => h) (Or.inl ⟨by rfl, ?_⟩) hHeld ?_
      rotate_left
      · (intro v9 hS9; go_simp; try with_reducible rfl)
      try simp only [Act.put, List.setIfInBounds_toArray, List.set_cons_zero, List.set_cons_succ, List.getElem_toArray, List.getElem_cons_zero, List.getElem_cons_succ]
      refine wpAnyH_ready (rs := [8]) (by kernel_rfl) (by simp) ?_
      refine (AllReadyH.cons rfl (fun K hK => ?_) AllReadyH.nil)
      go_simp
      refine hK.out _ _ trivial (fun hNext => ?_)
      clear hK K hHeld
      have hHeld := hNext
      clear hNext
      try simp only [Act.put, List.setIfInBounds_toArray, List.set_cons_zero, List.set_cons_succ, List.getElem_toArray, List.getElem_cons_zero, List.getElem_cons_succ]
      refine wpAnyH_done (by kernel_rfl) ?_ _
      clear hHeld
      go_upto_region 15 with fail
      have HK9 : Hid (∀ z ∈ m.memo ++ [(⟨⟨#[120]⟩, x⟩ : Sn)], z.k.size ≤ 1048576) := fun z hz => by
        rcases List.mem_append.1 hz with e | e
        · exact HKS.out z e
        · rw [List.mem_singleton.1 e]; exact (show (ByteArray.mk #[120]).size ≤ 1048576 by decide)
      clear HS5 HS6 HOV s0 t0 s1 t1 s2 t2 s3 t3 s4 t4 s5 t5 s6 t6 s7 t7 s8 t8 s9 t9 s10 t10
      obtain ⟨WA, hWA⟩ : ∃ WA, WA = w9.setCell ⟨q, 10, none⟩ (.slice (some ⟨g9, p9, none⟩) (m.memo.length + 1) cp9) := ⟨_, rfl⟩
      have HFN : Hid (Fn w WA b a len cap r q B { m with memo := m.memo ++ [(⟨⟨#[120]⟩, x⟩ : Sn)] } ra va (some ⟨g9, p9, none⟩) rc vc cp9) := by rw [hWA]; exact HG9.out.2
      rw [← hWA]
      clear hWA HG9
      have HEL : Hid (m.memo.length + 1 = (m.memo ++ [(⟨⟨#[120]⟩, x⟩ : Sn)]).length) := by show _ = _; simp
      have hmac : Mf WA q [.slice ra m.row.length rc, .int .i64 m.N, .string m.S, .int .i64 m.room, .slice va m.vals.length vc, .int .i64 m.ret, .bool m.over, .int .i64 m.steps, .int .i64 m.looks, .int .i64 m.hits, .slice (some ⟨g9, p9, none⟩) (m.memo.length + 1) cp9] := by
        rw [HEL.out]
        exact HFN.out.mac
      obtain ⟨q0, q1, q2, q3, q4, q5, q6, q7, q8, q9, q10, f0, f1, f2, f3, f4, f5, f6, f7, f8, f9, f10⟩ := hmac.all
      clear hmac
      obtain ⟨r0, r1, r2, r3, r4, r5, r6, r7, r8, r9, r10, z0, z1, z2, z3, z4, z5, z6, z7, z8, z9, z10⟩ := HFN.out.res.all
      go_wp2
      clear q0 f0 r0 z0 q1 f1 r1 z1 q2 f2 r2 z2 q3 f3 r3 z3 q4 f4 r4 z4 q5 f5 r5 z5 q6 f6 r6 z6 q7 f7 r7 z7 q8 f8 r8 z8 q9 f9 r9 z9 q10 f10 r10 z10
      obtain ⟨WF, hWF⟩ : ∃ WF, WF = (((((((((((WA).setCell ⟨r, 0, none⟩ (.slice ra m.row.length rc)).setCell ⟨r, 1, none⟩ (.int .i64 m.N)).setCell ⟨r, 2, none⟩ (.string m.S)).setCell ⟨r, 3, none⟩ (.int .i64 m.room)).setCell ⟨r, 4, none⟩ (.slice va m.vals.length vc)).setCell ⟨r, 5, none⟩ (.int .i64 m.ret)).setCell ⟨r, 6, none⟩ (.bool m.over)).setCell ⟨r, 7, none⟩ (.int .i64 m.steps)).setCell ⟨r, 8, none⟩ (.int .i64 m.looks)).setCell ⟨r, 9, none⟩ (.int .i64 m.hits)).setCell ⟨r, 10, none⟩ (.slice (some ⟨g9, p9, none⟩) (m.memo.length + 1) cp9) := ⟨_, rfl⟩
      rw [← hWF]
      have hfin := HFN.out.fin HSZ.out HK9.out (hWF.trans (by rw [HEL.out]))
      obtain ⟨r0, r1, r2, r3, r4, r5, r6, r7, r8, r9, r10, z0, z1, z2, z3, z4, z5, z6, z7, z8, z9, z10⟩ := hfin.1.all
      exact bodyPost_ret (v := .agg #[.slice ra m.row.length rc, .int .i64 m.N, .string m.S, .int .i64 m.room, .slice va m.vals.length vc, .int .i64 m.ret, .bool m.over, .int .i64 m.steps, .int .i64 m.looks, .int .i64 m.hits, .slice (some ⟨g9, p9, none⟩) (m.memo.length + 1) cp9]) (by simp [results, Tryz.results54, go_sem, r0, r1, r2, r3, r4, r5, r6, r7, r8, r9, r10]) rfl (by rw [HEL.out]; exact hfin.2)
    ·
      go_simp
      go_wp2_with (go_at_call 25; refine (Dr1.below _ b a len cap 3 (by omega) (by omega) HS5.out.drew.fn.cur).mono ?_; rintro e w6 ⟨⟨x, rfl, hx0, hx1⟩, hc6, ho6⟩)
      have HS6 : Hid (Sx w w6 b a len cap r q B m ra va ma rc vc mc) := HS5.out.drew.only hc6 ho6
      have hBs : B ≤ w6.heap.size := by have h1 := HS6.out.Bq; have h2 := HS6.out.fn.mac.lt (by simp); omega
      have HOV : Hid (OwSo (w6.alloc (.cells #[.string ⟨#[120]⟩, .int .i64 x] 40)) B (.slice ma m.memo.length mc) m.memo) := HS6.out.fn.memo.kept (S := fun _ => False) ((Kept.refl _ _).alloc _) (fun _ _ _ _ _ h => h)
      clear hc6 ho6
      refine hK.out _ _ trivial (fun hNext => ?_)
      clear hK K hHeld
      have hHeld := hNext
      clear hNext
      try simp only [Act.put, List.setIfInBounds_toArray, List.set_cons_zero, List.set_cons_succ, List.getElem_toArray, List.getElem_cons_zero, List.getElem_cons_succ]
      refine wpAnyH_take (i := 4) (v := ?_) rfl (by kernel_rfl) (by kernel_rfl) (by kernel_rfl) (fun _ _ _ h => h) (Or.inl ⟨by rfl, ?_⟩) hHeld ?_
      rotate_left
      · (intro v9 hS9; go_simp; try with_reducible rfl)
      try simp only [Act.put, List.setIfInBounds_toArray, List.set_cons_zero, List.set_cons_succ, List.getElem_toArray, List.getElem_cons_zero, List.getElem_cons_succ]
      refine wpAnyH_ready (rs := [1, 5]) (by kernel_rfl) (by simp) ?_
      refine (AllReadyH.cons rfl (fun K hK => ?_) (AllReadyH.cons rfl (fun K hK => ?_) AllReadyH.nil))
      ·
        obtain ⟨x0, x1, x2, x3, x4, x5, x6, x7, x8, x9, x10, k0, k1, k2, k3, k4, k5, k6, k7, k8, k9, k10⟩ := (HS6.out.fn.mac).all
        go_simp
        clear x0 k0 x1 k1 x2 k2 x3 k3 x4 k4 x5 k5 x6 k6 x7 k7 x8 k8 x9 k9 x10 k10
        refine hK.out _ _ trivial (fun hNext => ?_)
        clear hK K hHeld
        have hHeld := hNext
        clear hNext
        try simp only [Act.put, List.setIfInBounds_toArray, List.set_cons_zero, List.set_cons_succ, List.getElem_toArray, List.getElem_cons_zero, List.getElem_cons_succ]
        refine wpAnyH_ready (rs := [5]) (by kernel_rfl) (by simp) ?_
        refine (AllReadyH.cons rfl (fun K hK => ?_) AllReadyH.nil)
        go_simp
        refine hK.out _ _ trivial (fun hNext => ?_)
        clear hK K hHeld
        have hHeld := hNext
        clear hNext
        try simp only [Act.put, List.setIfInBounds_toArray, List.set_cons_zero, List.set_cons_succ, List.getElem_toArray, List.getElem_cons_zero, List.getElem_cons_succ]
        refine wpAnyH_ready (rs := [6]) (by kernel_rfl) (by simp) ?_
        refine (AllReadyH.cons rfl (fun K hK => ?_) AllReadyH.nil)
        refine step_so _ (by rfl) _ _ (by rfl) B ma mc m.memo (⟨⟨#[120]⟩, x⟩ : Sn) (by rfl) w6.heap.size (by rfl) (by simp) (by simp) HOV.out (by simp; omega) HML.out.2.2 ?_
        intro g9 p9 cp9 w9 hO9 hK9 hg9
        have HG9 : Hid (Mf w9 q [.slice ra m.row.length rc, .int .i64 m.N, .string m.S, .int .i64 m.room, .slice va m.vals.length vc, .int .i64 m.ret, .bool m.over, .int .i64 m.steps, .int .i64 m.looks, .int .i64 m.hits, .slice ma m.memo.length mc] ∧ Fn w (w9.setCell ⟨q, 10, none⟩ (.slice (some ⟨g9, p9, none⟩) (m.memo.length + 1) cp9)) b a len cap r q B { m with memo := m.memo ++ [(⟨⟨#[120]⟩, x⟩ : Sn)] } ra va (some ⟨g9, p9, none⟩) rc vc cp9) := HS6.out.grow_memo g9 p9 cp9 ((((Kept.refl (At ma) w6).alloc _)).trans hK9) hO9 (hg9.imp (fun h => h) (fun h => by simp at h; omega))
        obtain ⟨s0, s1, s2, s3, s4, s5, s6, s7, s8, s9, s10, t0, t1, t2, t3, t4, t5, t6, t7, t8, t9, t10⟩ := HG9.out.1.all
        clear hO9 hK9 hg9
        refine hK.out _ _ trivial (fun hNext => ?_)
        clear hK K hHeld
        have hHeld := hNext
        clear hNext
        try simp only [Act.put, List.setIfInBounds_toArray, List.set_cons_zero, List.set_cons_succ, List.getElem_toArray, List.getElem_cons_zero, List.getElem_cons_succ]
        refine wpAnyH_take (i := 7) (v := ?_) rfl (by kernel_rfl) (by kernel_rfl) (by kernel_rfl) (fun _ _ _ h => h) (Or.inl ⟨by rfl, ?_⟩) hHeld ?_
        rotate_left
        · (intro v9 hS9; go_simp; try with_reducible rfl)
        try simp only [Act.put, List.setIfInBounds_toArray, List.set_cons_zero, List.set_cons_succ, List.getElem_toArray, List.getElem_cons_zero, List.getElem_cons_succ]
        refine wpAnyH_ready (rs := [8]) (by kernel_rfl) (by simp) ?_
        refine (AllReadyH.cons rfl (fun K hK => ?_) AllReadyH.nil)
        go_simp
        refine hK.out _ _ trivial (fun hNext => ?_)
        clear hK K hHeld
        have hHeld := hNext
        clear hNext
        try simp only [Act.put, List.setIfInBounds_toArray, List.set_cons_zero, List.set_cons_succ, List.getElem_toArray, List.getElem_cons_zero, List.getElem_cons_succ]
        refine wpAnyH_done (by kernel_rfl) ?_ _
        clear hHeld
        go_upto_region 15 with fail
        have HK9 : Hid (∀ z ∈ m.memo ++ [(⟨⟨#[120]⟩, x⟩ : Sn)], z.k.size ≤ 1048576) := fun z hz => by
          rcases List.mem_append.1 hz with e | e
          · exact HKS.out z e
          · rw [List.mem_singleton.1 e]; exact (show (ByteArray.mk #[120]).size ≤ 1048576 by decide)
        clear HS5 HS6 HOV s0 t0 s1 t1 s2 t2 s3 t3 s4 t4 s5 t5 s6 t6 s7 t7 s8 t8 s9 t9 s10 t10
        obtain ⟨WA, hWA⟩ : ∃ WA, WA = w9.setCell ⟨q, 10, none⟩ (.slice (some ⟨g9, p9, none⟩) (m.memo.length + 1) cp9) := ⟨_, rfl⟩
        have HFN : Hid (Fn w WA b a len cap r q B { m with memo := m.memo ++ [(⟨⟨#[120]⟩, x⟩ : Sn)] } ra va (some ⟨g9, p9, none⟩) rc vc cp9) := by rw [hWA]; exact HG9.out.2
        rw [← hWA]
        clear hWA HG9
        have HEL : Hid (m.memo.length + 1 = (m.memo ++ [(⟨⟨#[120]⟩, x⟩ : Sn)]).length) := by show _ = _; simp
        have hmac : Mf WA q [.slice ra m.row.length rc, .int .i64 m.N, .string m.S, .int .i64 m.room, .slice va m.vals.length vc, .int .i64 m.ret, .bool m.over, .int .i64 m.steps, .int .i64 m.looks, .int .i64 m.hits, .slice (some ⟨g9, p9, none⟩) (m.memo.length + 1) cp9] := by
          rw [HEL.out]
          exact HFN.out.mac
        obtain ⟨q0, q1, q2, q3, q4, q5, q6, q7, q8, q9, q10, f0, f1, f2, f3, f4, f5, f6, f7, f8, f9, f10⟩ := hmac.all
        clear hmac
        obtain ⟨r0, r1, r2, r3, r4, r5, r6, r7, r8, r9, r10, z0, z1, z2, z3, z4, z5, z6, z7, z8, z9, z10⟩ := HFN.out.res.all
        go_wp2
        clear q0 f0 r0 z0 q1 f1 r1 z1 q2 f2 r2 z2 q3 f3 r3 z3 q4 f4 r4 z4 q5 f5 r5 z5 q6 f6 r6 z6 q7 f7 r7 z7 q8 f8 r8 z8 q9 f9 r9 z9 q10 f10 r10 z10
        obtain ⟨WF, hWF⟩ : ∃ WF, WF = (((((((((((WA).setCell ⟨r, 0, none⟩ (.slice ra m.row.length rc)).setCell ⟨r, 1, none⟩ (.int .i64 m.N)).setCell ⟨r, 2, none⟩ (.string m.S)).setCell ⟨r, 3, none⟩ (.int .i64 m.room)).setCell ⟨r, 4, none⟩ (.slice va m.vals.length vc)).setCell ⟨r, 5, none⟩ (.int .i64 m.ret)).setCell ⟨r, 6, none⟩ (.bool m.over)).setCell ⟨r, 7, none⟩ (.int .i64 m.steps)).setCell ⟨r, 8, none⟩ (.int .i64 m.looks)).setCell ⟨r, 9, none⟩ (.int .i64 m.hits)).setCell ⟨r, 10, none⟩ (.slice (some ⟨g9, p9, none⟩) (m.memo.length + 1) cp9) := ⟨_, rfl⟩
        rw [← hWF]
        have hfin := HFN.out.fin HSZ.out HK9.out (hWF.trans (by rw [HEL.out]))
        obtain ⟨r0, r1, r2, r3, r4, r5, r6, r7, r8, r9, r10, z0, z1, z2, z3, z4, z5, z6, z7, z8, z9, z10⟩ := hfin.1.all
        exact bodyPost_ret (v := .agg #[.slice ra m.row.length rc, .int .i64 m.N, .string m.S, .int .i64 m.room, .slice va m.vals.length vc, .int .i64 m.ret, .bool m.over, .int .i64 m.steps, .int .i64 m.looks, .int .i64 m.hits, .slice (some ⟨g9, p9, none⟩) (m.memo.length + 1) cp9]) (by simp [results, Tryz.results54, go_sem, r0, r1, r2, r3, r4, r5, r6, r7, r8, r9, r10]) rfl (by rw [HEL.out]; exact hfin.2)
      ·
        go_simp
        refine hK.out _ _ trivial (fun hNext => ?_)
        clear hK K hHeld
        have hHeld := hNext
        clear hNext
        try simp only [Act.put, List.setIfInBounds_toArray, List.set_cons_zero, List.set_cons_succ, List.getElem_toArray, List.getElem_cons_zero, List.getElem_cons_succ]
        refine wpAnyH_ready (rs := [1]) (by kernel_rfl) (by simp) ?_
        refine (AllReadyH.cons rfl (fun K hK => ?_) AllReadyH.nil)
        obtain ⟨x0, x1, x2, x3, x4, x5, x6, x7, x8, x9, x10, k0, k1, k2, k3, k4, k5, k6, k7, k8, k9, k10⟩ := ((HS6.out.fn.mac.alloc (.cells #[.string ⟨#[120]⟩, .int .i64 x] 40))).all
        go_simp
        clear x0 k0 x1 k1 x2 k2 x3 k3 x4 k4 x5 k5 x6 k6 x7 k7 x8 k8 x9 k9 x10 k10
        refine hK.out _ _ trivial (fun hNext => ?_)
        clear hK K hHeld
        have hHeld := hNext
        clear hNext
        try simp only [Act.put, List.setIfInBounds_toArray, List.set_cons_zero, List.set_cons_succ, List.getElem_toArray, List.getElem_cons_zero, List.getElem_cons_succ]
        refine wpAnyH_ready (rs := [6]) (by kernel_rfl) (by simp) ?_
        refine (AllReadyH.cons rfl (fun K hK => ?_) AllReadyH.nil)
        refine step_so _ (by rfl) _ _ (by rfl) B ma mc m.memo (⟨⟨#[120]⟩, x⟩ : Sn) (by rfl) w6.heap.size (by rfl) (by simp) (by simp) HOV.out (by simp; omega) HML.out.2.2 ?_
        intro g9 p9 cp9 w9 hO9 hK9 hg9
        have HG9 : Hid (Mf w9 q [.slice ra m.row.length rc, .int .i64 m.N, .string m.S, .int .i64 m.room, .slice va m.vals.length vc, .int .i64 m.ret, .bool m.over, .int .i64 m.steps, .int .i64 m.looks, .int .i64 m.hits, .slice ma m.memo.length mc] ∧ Fn w (w9.setCell ⟨q, 10, none⟩ (.slice (some ⟨g9, p9, none⟩) (m.memo.length + 1) cp9)) b a len cap r q B { m with memo := m.memo ++ [(⟨⟨#[120]⟩, x⟩ : Sn)] } ra va (some ⟨g9, p9, none⟩) rc vc cp9) := HS6.out.grow_memo g9 p9 cp9 ((((Kept.refl (At ma) w6).alloc _)).trans hK9) hO9 (hg9.imp (fun h => h) (fun h => by simp at h; omega))
        obtain ⟨s0, s1, s2, s3, s4, s5, s6, s7, s8, s9, s10, t0, t1, t2, t3, t4, t5, t6, t7, t8, t9, t10⟩ := HG9.out.1.all
        clear hO9 hK9 hg9
        refine hK.out _ _ trivial (fun hNext => ?_)
        clear hK K hHeld
        have hHeld := hNext
        clear hNext
        try simp only [Act.put, List.setIfInBounds_toArray, List.set_cons_zero, List.set_cons_succ, List.getElem_toArray, List.getElem_cons_zero, List.getElem_cons_succ]
        refine wpAnyH_take (i := 7) (v := ?_) rfl (by kernel_rfl) (by kernel_rfl) (by kernel_rfl) (fun _ _ _ h => h) (Or.inl ⟨by rfl, ?_⟩) hHeld ?_
        rotate_left
        · (intro v9 hS9; go_simp; try with_reducible rfl)
        try simp only [Act.put, List.setIfInBounds_toArray, List.set_cons_zero, List.set_cons_succ, List.getElem_toArray, List.getElem_cons_zero, List.getElem_cons_succ]
        refine wpAnyH_ready (rs := [8]) (by kernel_rfl) (by simp) ?_
        refine (AllReadyH.cons rfl (fun K hK => ?_) AllReadyH.nil)
        go_simp
        refine hK.out _ _ trivial (fun hNext => ?_)
        clear hK K hHeld
        have hHeld := hNext
        clear hNext
        try simp only [Act.put, List.setIfInBounds_toArray, List.set_cons_zero, List.set_cons_succ, List.getElem_toArray, List.getElem_cons_zero, List.getElem_cons_succ]
        refine wpAnyH_done (by kernel_rfl) ?_ _
        clear hHeld
        go_upto_region 15 with fail
        have HK9 : Hid (∀ z ∈ m.memo ++ [(⟨⟨#[120]⟩, x⟩ : Sn)], z.k.size ≤ 1048576) := fun z hz => by
          rcases List.mem_append.1 hz with e | e
          · exact HKS.out z e
          · rw [List.mem_singleton.1 e]; exact (show (ByteArray.mk #[120]).size ≤ 1048576 by decide)
        clear HS5 HS6 HOV s0 t0 s1 t1 s2 t2 s3 t3 s4 t4 s5 t5 s6 t6 s7 t7 s8 t8 s9 t9 s10 t10
        obtain ⟨WA, hWA⟩ : ∃ WA, WA = w9.setCell ⟨q, 10, none⟩ (.slice (some ⟨g9, p9, none⟩) (m.memo.length + 1) cp9) := ⟨_, rfl⟩
        have HFN : Hid (Fn w WA b a len cap r q B { m with memo := m.memo ++ [(⟨⟨#[120]⟩, x⟩ : Sn)] } ra va (some ⟨g9, p9, none⟩) rc vc cp9) := by rw [hWA]; exact HG9.out.2
        rw [← hWA]
        clear hWA HG9
        have HEL : Hid (m.memo.length + 1 = (m.memo ++ [(⟨⟨#[120]⟩, x⟩ : Sn)]).length) := by show _ = _; simp
        have hmac : Mf WA q [.slice ra m.row.length rc, .int .i64 m.N, .string m.S, .int .i64 m.room, .slice va m.vals.length vc, .int .i64 m.ret, .bool m.over, .int .i64 m.steps, .int .i64 m.looks, .int .i64 m.hits, .slice (some ⟨g9, p9, none⟩) (m.memo.length + 1) cp9] := by
          rw [HEL.out]
          exact HFN.out.mac
        obtain ⟨q0, q1, q2, q3, q4, q5, q6, q7, q8, q9, q10, f0, f1, f2, f3, f4, f5, f6, f7, f8, f9, f10⟩ := hmac.all
        clear hmac
        obtain ⟨r0, r1, r2, r3, r4, r5, r6, r7, r8, r9, r10, z0, z1, z2, z3, z4, z5, z6, z7, z8, z9, z10⟩ := HFN.out.res.all
        go_wp2
        clear q0 f0 r0 z0 q1 f1 r1 z1 q2 f2 r2 z2 q3 f3 r3 z3 q4 f4 r4 z4 q5 f5 r5 z5 q6 f6 r6 z6 q7 f7 r7 z7 q8 f8 r8 z8 q9 f9 r9 z9 q10 f10 r10 z10
        obtain ⟨WF, hWF⟩ : ∃ WF, WF = (((((((((((WA).setCell ⟨r, 0, none⟩ (.slice ra m.row.length rc)).setCell ⟨r, 1, none⟩ (.int .i64 m.N)).setCell ⟨r, 2, none⟩ (.string m.S)).setCell ⟨r, 3, none⟩ (.int .i64 m.room)).setCell ⟨r, 4, none⟩ (.slice va m.vals.length vc)).setCell ⟨r, 5, none⟩ (.int .i64 m.ret)).setCell ⟨r, 6, none⟩ (.bool m.over)).setCell ⟨r, 7, none⟩ (.int .i64 m.steps)).setCell ⟨r, 8, none⟩ (.int .i64 m.looks)).setCell ⟨r, 9, none⟩ (.int .i64 m.hits)).setCell ⟨r, 10, none⟩ (.slice (some ⟨g9, p9, none⟩) (m.memo.length + 1) cp9) := ⟨_, rfl⟩
        rw [← hWF]
        have hfin := HFN.out.fin HSZ.out HK9.out (hWF.trans (by rw [HEL.out]))
        obtain ⟨r0, r1, r2, r3, r4, r5, r6, r7, r8, r9, r10, z0, z1, z2, z3, z4, z5, z6, z7, z8, z9, z10⟩ := hfin.1.all
        exact bodyPost_ret (v := .agg #[.slice ra m.row.length rc, .int .i64 m.N, .string m.S, .int .i64 m.room, .slice va m.vals.length vc, .int .i64 m.ret, .bool m.over, .int .i64 m.steps, .int .i64 m.looks, .int .i64 m.hits, .slice (some ⟨g9, p9, none⟩) (m.memo.length + 1) cp9]) (by simp [results, Tryz.results54, go_sem, r0, r1, r2, r3, r4, r5, r6, r7, r8, r9, r10]) rfl (by rw [HEL.out]; exact hfin.2)
  by_cases hy5e : y = 5
  · skip
    have yb0 : (y == 0) = false := beq_eq_false_iff_ne.2 (by omega)
    have yb1 : (y == 1) = false := beq_eq_false_iff_ne.2 (by omega)
    have yb2 : (y == 2) = false := beq_eq_false_iff_ne.2 (by omega)
    have yb3 : (y == 3) = false := beq_eq_false_iff_ne.2 (by omega)
    have yb4 : (y == 4) = false := beq_eq_false_iff_ne.2 (by omega)
    have yb5 : (y == 5) = true := beq_iff_eq.2 hy5e
    clear hy5e
    go_wp2_with fail
    refine (pickP w5 b a len cap _ _ 3 (fun _ => True) (by omega) (by omega) (fun i hi => by
      rcases (show i = 0 ∨ i = 1 ∨ i = 2 by omega) with h | h | h <;> subst h <;> exact ⟨_, rfl, trivial⟩) HS5.out.fn.cur).mono ?_
    rintro e w6 ⟨⟨x, rfl, _⟩, hc6, ho6⟩
    have HS6 : Hid (Sx w w6 b a len cap r q B m ra va ma rc vc mc) := HS5.out.only hc6 ho6
    clear hc6 ho6 HS5
    obtain ⟨q0, q1, q2, q3, q4, q5, q6, q7, q8, q9, q10, f0, f1, f2, f3, f4, f5, f6, f7, f8, f9, f10⟩ := HS6.out.fn.mac.all
    go_upto_region 15 with fail
    clear q0 f0 q1 f1 q2 f2 q3 f3 q4 f4 q5 f5 q6 f6 q7 f7 q8 f8 q9 f9 q10 f10
    obtain ⟨WA, hWA⟩ : ∃ WA, WA = w6.setCell ⟨q, 7, none⟩ (.int .i64 x) := ⟨_, rfl⟩
    have HFN : Hid (Fn w WA b a len cap r q B { m with steps := x } ra va ma rc vc mc) := by
      rw [hWA]
      obtain ⟨p1, p2, p3, p4, p5, p6, p7⟩ := HS6.out.fn.put HS6.out.Bq HS6.out.qr 7 (.int .i64 x)
      exact ⟨p1, p2, p3, p4, p5, p6, p7, HS6.out.fn.rw_, HS6.out.fn.bw, HS6.out.fn.rB, HS6.out.fn.low⟩
    rw [← hWA]
    clear hWA HS6
    obtain ⟨q0, q1, q2, q3, q4, q5, q6, q7, q8, q9, q10, f0, f1, f2, f3, f4, f5, f6, f7, f8, f9, f10⟩ := HFN.out.mac.all
    obtain ⟨r0, r1, r2, r3, r4, r5, r6, r7, r8, r9, r10, z0, z1, z2, z3, z4, z5, z6, z7, z8, z9, z10⟩ := HFN.out.res.all
    go_wp2
    clear q0 f0 r0 z0 q1 f1 r1 z1 q2 f2 r2 z2 q3 f3 r3 z3 q4 f4 r4 z4 q5 f5 r5 z5 q6 f6 r6 z6 q7 f7 r7 z7 q8 f8 r8 z8 q9 f9 r9 z9 q10 f10 r10 z10
    obtain ⟨WF, hWF⟩ : ∃ WF, WF = (((((((((((WA).setCell ⟨r, 0, none⟩ (.slice ra m.row.length rc)).setCell ⟨r, 1, none⟩ (.int .i64 m.N)).setCell ⟨r, 2, none⟩ (.string m.S)).setCell ⟨r, 3, none⟩ (.int .i64 m.room)).setCell ⟨r, 4, none⟩ (.slice va m.vals.length vc)).setCell ⟨r, 5, none⟩ (.int .i64 m.ret)).setCell ⟨r, 6, none⟩ (.bool m.over)).setCell ⟨r, 7, none⟩ (.int .i64 x)).setCell ⟨r, 8, none⟩ (.int .i64 m.looks)).setCell ⟨r, 9, none⟩ (.int .i64 m.hits)).setCell ⟨r, 10, none⟩ (.slice ma m.memo.length mc) := ⟨_, rfl⟩
    rw [← hWF]
    have hfin := HFN.out.fin HSZ.out HKS.out hWF
    obtain ⟨r0, r1, r2, r3, r4, r5, r6, r7, r8, r9, r10, z0, z1, z2, z3, z4, z5, z6, z7, z8, z9, z10⟩ := hfin.1.all
    exact bodyPost_ret (v := .agg #[.slice ra m.row.length rc, .int .i64 m.N, .string m.S, .int .i64 m.room, .slice va m.vals.length vc, .int .i64 m.ret, .bool m.over, .int .i64 x, .int .i64 m.looks, .int .i64 m.hits, .slice ma m.memo.length mc]) (by simp [results, Tryz.results54, go_sem, r0, r1, r2, r3, r4, r5, r6, r7, r8, r9, r10]) rfl hfin.2
  have yb0 : (y == 0) = false := beq_eq_false_iff_ne.2 (by omega)
  have yb1 : (y == 1) = false := beq_eq_false_iff_ne.2 (by omega)
  have yb2 : (y == 2) = false := beq_eq_false_iff_ne.2 (by omega)
  have yb3 : (y == 3) = false := beq_eq_false_iff_ne.2 (by omega)
  have yb4 : (y == 4) = false := beq_eq_false_iff_ne.2 (by omega)
  have yb5 : (y == 5) = false := beq_eq_false_iff_ne.2 (by omega)
  have HFN : Hid (Fn w w5 b a len cap r q B m ra va ma rc vc mc) := HS5.out.fn
  go_upto_region 15 with fail
  obtain ⟨WA, hWA⟩ : ∃ WA, WA = w5 := ⟨_, rfl⟩
  rw [← hWA] at HFN ⊢
  clear hWA
  obtain ⟨q0, q1, q2, q3, q4, q5, q6, q7, q8, q9, q10, f0, f1, f2, f3, f4, f5, f6, f7, f8, f9, f10⟩ := HFN.out.mac.all
  obtain ⟨r0, r1, r2, r3, r4, r5, r6, r7, r8, r9, r10, z0, z1, z2, z3, z4, z5, z6, z7, z8, z9, z10⟩ := HFN.out.res.all
  go_wp2
  clear q0 f0 r0 z0 q1 f1 r1 z1 q2 f2 r2 z2 q3 f3 r3 z3 q4 f4 r4 z4 q5 f5 r5 z5 q6 f6 r6 z6 q7 f7 r7 z7 q8 f8 r8 z8 q9 f9 r9 z9 q10 f10 r10 z10
  obtain ⟨WF, hWF⟩ : ∃ WF, WF = (((((((((((WA).setCell ⟨r, 0, none⟩ (.slice ra m.row.length rc)).setCell ⟨r, 1, none⟩ (.int .i64 m.N)).setCell ⟨r, 2, none⟩ (.string m.S)).setCell ⟨r, 3, none⟩ (.int .i64 m.room)).setCell ⟨r, 4, none⟩ (.slice va m.vals.length vc)).setCell ⟨r, 5, none⟩ (.int .i64 m.ret)).setCell ⟨r, 6, none⟩ (.bool m.over)).setCell ⟨r, 7, none⟩ (.int .i64 m.steps)).setCell ⟨r, 8, none⟩ (.int .i64 m.looks)).setCell ⟨r, 9, none⟩ (.int .i64 m.hits)).setCell ⟨r, 10, none⟩ (.slice ma m.memo.length mc) := ⟨_, rfl⟩
  rw [← hWF]
  have hfin := HFN.out.fin HSZ.out HKS.out hWF
  obtain ⟨r0, r1, r2, r3, r4, r5, r6, r7, r8, r9, r10, z0, z1, z2, z3, z4, z5, z6, z7, z8, z9, z10⟩ := hfin.1.all
  exact bodyPost_ret (v := .agg #[.slice ra m.row.length rc, .int .i64 m.N, .string m.S, .int .i64 m.room, .slice va m.vals.length vc, .int .i64 m.ret, .bool m.over, .int .i64 m.steps, .int .i64 m.looks, .int .i64 m.hits, .slice ma m.memo.length mc]) (by simp [results, Tryz.results54, go_sem, r0, r1, r2, r3, r4, r5, r6, r7, r8, r9, r10]) rfl hfin.2

end Go.Proofs.YtmjmnfegaoegjaaGreatDoor.Rd1
