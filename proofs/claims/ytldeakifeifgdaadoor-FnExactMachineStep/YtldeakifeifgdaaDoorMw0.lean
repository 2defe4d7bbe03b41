/- The program's machine at work: its block; the end, the other value. Written by tools/gen_mw0.py. -/
import Derived.Test.YtldeakifeifgdaaDoorPkQm
import Derived.Test.YtldeakifeifgdaaDoorPkQo
namespace Go.Proofs.YtldeakifeifgdaaDoor.Mw0
open Go.RowKit
open Nd0 (Kept Ints lt_of_cell set_same set_other)
open Mm0 Mx0 Mu2 Mi5 Te1
open Ta1 Tc2 Td1 Mc0 Mm1
open Ss0 (bs)
set_option linter.unusedVariables false

/-- A machine at work lies in the block p: the machine's eleven cells and its map. -/
def Sb (W : World) (p : Nat) (m : Mc) (ra va ma : Option Addr) (rc vc mc bm : Nat) : Prop := Mf W p [.slice ra m.row.length rc, .int .i64 m.N, .string m.S, .int .i64 m.room, .slice va m.vals.length vc, .int .i64 m.ret, .bool m.over, .int .i64 m.steps, .int .i64 m.looks, .int .i64 m.hits, .slice ma m.memo.length mc, .map (some bm)]
structure Sz (W : World) (p : Nat) (m : Mc) (ra va ma : Option Addr) (rc vc mc bm : Nat) : Prop where
  c0 : W.cell? ⟨p, 0, none⟩ = some (.slice ra m.row.length rc)
  c1 : W.cell? ⟨p, 1, none⟩ = some (.int .i64 m.N)
  c2 : W.cell? ⟨p, 2, none⟩ = some (.string m.S)
  c3 : W.cell? ⟨p, 3, none⟩ = some (.int .i64 m.room)
  c4 : W.cell? ⟨p, 4, none⟩ = some (.slice va m.vals.length vc)
  c5 : W.cell? ⟨p, 5, none⟩ = some (.int .i64 m.ret)
  c6 : W.cell? ⟨p, 6, none⟩ = some (.bool m.over)
  c7 : W.cell? ⟨p, 7, none⟩ = some (.int .i64 m.steps)
  c8 : W.cell? ⟨p, 8, none⟩ = some (.int .i64 m.looks)
  c9 : W.cell? ⟨p, 9, none⟩ = some (.int .i64 m.hits)
  c10 : W.cell? ⟨p, 10, none⟩ = some (.slice ma m.memo.length mc)
  c11 : W.cell? ⟨p, 11, none⟩ = some (.map (some bm))
  z0 : W.frozen? ⟨p, 0, none⟩ = false
  z1 : W.frozen? ⟨p, 1, none⟩ = false
  z2 : W.frozen? ⟨p, 2, none⟩ = false
  z3 : W.frozen? ⟨p, 3, none⟩ = false
  z4 : W.frozen? ⟨p, 4, none⟩ = false
  z5 : W.frozen? ⟨p, 5, none⟩ = false
  z6 : W.frozen? ⟨p, 6, none⟩ = false
  z7 : W.frozen? ⟨p, 7, none⟩ = false
  z8 : W.frozen? ⟨p, 8, none⟩ = false
  z9 : W.frozen? ⟨p, 9, none⟩ = false
  z10 : W.frozen? ⟨p, 10, none⟩ = false
  z11 : W.frozen? ⟨p, 11, none⟩ = false
theorem Sb.all {W : World} {p : Nat} {m : Mc} {ra va ma : Option Addr} {rc vc mc bm : Nat} (h : Sb W p m ra va ma rc vc mc bm) : Sz W p m ra va ma rc vc mc bm :=
  ⟨(h 0 (by simp)).1, (h 1 (by simp)).1, (h 2 (by simp)).1, (h 3 (by simp)).1, (h 4 (by simp)).1, (h 5 (by simp)).1, (h 6 (by simp)).1, (h 7 (by simp)).1, (h 8 (by simp)).1, (h 9 (by simp)).1, (h 10 (by simp)).1, (h 11 (by simp)).1, (h 0 (by simp)).2, (h 1 (by simp)).2, (h 2 (by simp)).2, (h 3 (by simp)).2, (h 4 (by simp)).2, (h 5 (by simp)).2, (h 6 (by simp)).2, (h 7 (by simp)).2, (h 8 (by simp)).2, (h 9 (by simp)).2, (h 10 (by simp)).2, (h 11 (by simp)).2⟩
theorem Sb.kept {W W' : World} {p : Nat} {m : Mc} {ra va ma : Option Addr} {rc vc mc bm : Nat} (h : Sb W p m ra va ma rc vc mc bm) {S : Nat → Prop} (k : Kept S W W') (hs : ¬ S p) : Sb W' p m ra va ma rc vc mc bm := Mf.kept h k hs
theorem Sb.below {W W' : World} {p : Nat} {m : Mc} {ra va ma : Option Addr} {rc vc mc bm : Nat} (h : Sb W p m ra va ma rc vc mc bm) (k : Below W.heap.size W W') : Sb W' p m ra va ma rc vc mc bm := Mf.below h k
theorem Sb.lt {W : World} {p : Nat} {m : Mc} {ra va ma : Option Addr} {rc vc mc bm : Nat} (h : Sb W p m ra va ma rc vc mc bm) : p < W.heap.size := Mf.lt h (by simp)

set_option maxRecDepth 100000 in
set_option maxHeartbeats 2000000 in
theorem iEnd (w : World) (p : Nat) (m : Mc) (ra va ma : Option Addr) (rc vc mc bm : Nat) (h : Sb w p m ra va ma rc vc mc bm) :
    Calls Tryd.prog 75 #[.pointer (some ⟨p, 0, none⟩)] w fun e w' => e = .returned (.tuple #[]) ∧ Sb w' p { m with over := true } ra va ma rc vc mc bm ∧ Kept (fun b => b = p) w w' := by
  have H : Hid (Sb w p m ra va ma rc vc mc bm) := h
  obtain ⟨c0, c1, c2, c3, c4, c5, c6, c7, c8, c9, c10, c11, z0, z1, z2, z3, z4, z5, z6, z7, z8, z9, z10, z11⟩ := h.all
  clear h
  have hp := H.out.lt
  go_enter Tryd.func75, Tryd.ntmps75
  go_wp2
  clear c0 c1 c2 c3 c4 c5 c6 c7 c8 c9 c10 c11 z0 z1 z2 z3 z4 z5 z6 z7 z8 z9 z10 z11
  exact bodyPost_end (v := .tuple #[]) (by simp [results, Tryd.results75, go_sem]) rfl ⟨rfl, H.out.set 6 (.bool true), (Kept.refl (fun b => b = p) w).setCell (p := ⟨p, 6, none⟩) rfl _⟩

set_option maxRecDepth 100000 in
set_option maxHeartbeats 2000000 in
theorem iLook (n : Nat) (F : Nat → Bool) (vb : List Bool) (w : World) (p : Nat) (m : Mc) (ra va ma : Option Addr) (rc vc mc bm : Nat) (hn : n ≤ 12) (hN : m.N = (n : Int)) (hS : m.S = bs (tab n F)) (hv : m.vals = vb.map bi) (hk : vb.length ≤ n) (hlo : 0 ≤ m.looks ∧ m.looks ≤ 1000000000) (hI : Ints w va m.vals) (h : Sb w p m ra va ma rc vc mc bm) :
    Calls Tryd.prog 72 #[.pointer (some ⟨p, 0, none⟩)] w fun e w' => e = .returned (.tuple #[]) ∧ Sb w' p { m with ret := knw (n - vb.length) (lft n F vb), looks := m.looks + 1 } ra va ma rc vc mc bm ∧ Kept (fun b => b = p) w w' := by
  have H : Hid (Sb w p m ra va ma rc vc mc bm) := h
  have HLF : Hid (∀ W, Below w.heap.size w W → Calls Tryd.prog 87 #[mval m ra va ma rc vc mc] W fun e w' => e = .returned (tv ((n - vb.length : Nat) : Int) (bs (tab (n - vb.length) (lft n F vb)))) ∧ Below W.heap.size W w') := fun W hb => iLeft n F vb m ra va ma rc vc mc W hn hN hS hv hk (hI.below hb)
  have HKN : Hid (∀ W, Calls Tryd.prog 86 #[tv ((n - vb.length : Nat) : Int) (bs (tab (n - vb.length) (lft n F vb)))] W fun e w' => e = .returned (.int .i64 (knw (n - vb.length) (lft n F vb))) ∧ Below W.heap.size W w') := fun W => iKnown _ _ W (by omega)
  clear hN hS hv hk hI hn
  generalize knw (n - vb.length) (lft n F vb) = kn at *
  generalize tv ((n - vb.length : Nat) : Int) (bs (tab (n - vb.length) (lft n F vb))) = TT at *
  obtain ⟨c0, c1, c2, c3, c4, c5, c6, c7, c8, c9, c10, c11, z0, z1, z2, z3, z4, z5, z6, z7, z8, z9, z10, z11⟩ := h.all
  clear h
  have hp := H.out.lt
  go_enter Tryd.func72, Tryd.ntmps72
  go_wp2_with fail
  clear c0 c1 c2 c3 c4 c5 c6 c7 c8 c9 c10 c11 z0 z1 z2 z3 z4 z5 z6 z7 z8 z9 z10 z11 hp
  refine (HLF.out _ (Below.refl _ _)).mono ?_
  rintro _ x1 ⟨rfl, hb⟩
  have H1 : Hid (Sb x1 p m ra va ma rc vc mc bm) := H.out.below hb
  have HB1 : Hid (Below w.heap.size w x1) := hb
  clear hb
  go_wp2_with fail
  refine (HKN.out _).mono ?_
  rintro _ x2 ⟨rfl, hb⟩
  have H2 : Hid (Sb x2 p m ra va ma rc vc mc bm) := H1.out.below hb
  have HB2 : Hid (Below w.heap.size w x2) := HB1.out.trans (hb.mono HB1.out.size)
  clear hb
  obtain ⟨c0, c1, c2, c3, c4, c5, c6, c7, c8, c9, c10, c11, z0, z1, z2, z3, z4, z5, z6, z7, z8, z9, z10, z11⟩ := H2.out.all
  go_wp2
  clear c0 c1 c2 c3 c4 c5 c6 c7 c8 c9 c10 c11 z0 z1 z2 z3 z4 z5 z6 z7 z8 z9 z10 z11
  exact bodyPost_end (v := .tuple #[]) (by simp [results, Tryd.results72, go_sem]) rfl ⟨rfl, (H2.out.set 5 (.int .i64 kn)).set 8 (.int .i64 (m.looks + 1)), ((Kept.ofBelow HB2.out : Kept (fun b => b = p) w x2).setCell (p := ⟨p, 5, none⟩) rfl _).setCell (p := ⟨p, 8, none⟩) rfl _⟩

end Go.Proofs.YtldeakifeifgdaaDoor.Mw0
