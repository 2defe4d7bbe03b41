/- The draws of chapter 12: two journals, a journal and a number. -/
import Derived.Test.YtficonkpbohpeaaDoorJd0
namespace Go.Proofs.YtficonkpbohpeaaDoor.Jd1
open Go.RowKit
open Nd0 Dr5 Jd0
open Dr0 (Cur Only Bytes)
open Dr1 (below once pickInt)
set_option linter.unusedVariables false

def P2 (w : World) (e : Ending) (w' : World) : Prop := (∃ S T : ByteArray, e = .returned (.tuple #[.string S, .string T]) ∧ S.size ≤ 1000 ∧ T.size ≤ 1000) ∧ Below w.heap.size w w'
set_option maxRecDepth 100000 in
set_option maxHeartbeats 1000000 in
theorem drawAppend (w : World) (a : Option Addr) (len cap : Nat) (hb : Bytes w a len) :
    Calls Tryd.prog 11 #[.slice a len cap] w (P2 w) := by
  have HB : Hid (Bytes w a len) := hb
  clear hb
  go_enter Tryd.func11, Tryd.ntmps11
  go_wp2_with fail
  refine (Dr4.new _ a len cap HB.out).mono ?_
  rintro e w1 ⟨rfl, hc, hb1⟩
  have HC : Hid (Cur w1 w.heap.size a len cap) := hc
  have HB1 : Hid (Below w.heap.size w w1) := hb1
  clear hc hb1
  obtain ⟨b, hbb⟩ : ∃ b, b = w.heap.size := ⟨_, rfl⟩
  rw [← hbb] at HC ⊢
  have HBB : Hid (b = w.heap.size) := hbb
  clear hbb
  go_wp2_with fail
  refine (journalAny _ b a len cap HC.out).mono ?_
  rintro e w2 ⟨⟨S, rfl, hS⟩, hc, hk⟩
  have HC2 : Hid (Cur w2 b a len cap) := hc
  have HB2 : Hid (Below w.heap.size w w2) := HB1.out.trans (hk.below (fun k (e : k = b) => by have := HBB.out; omega) HB1.out.size)
  clear hc hk
  go_wp2_with fail
  refine (journalAny _ b a len cap HC2.out).mono ?_
  rintro e w3 ⟨⟨T, rfl, hT⟩, hc, hk⟩
  have HB3 : Hid (Below w.heap.size w w3) := HB2.out.trans (hk.below (fun k (e : k = b) => by have := HBB.out; omega) HB2.out.size)
  clear hc hk
  go_wp2
  go_ret2
  exact ⟨⟨S, T, rfl, hS, hT⟩, HB3.out⟩

def PT (w : World) (e : Ending) (w' : World) : Prop := (∃ (S : ByteArray) (n : Int), e = .returned (.tuple #[.string S, .int .i64 n]) ∧ S.size ≤ 1000) ∧ Below w.heap.size w w'
set_option maxRecDepth 100000 in
set_option maxHeartbeats 1000000 in
theorem drawTorn (w : World) (a : Option Addr) (len cap : Nat) (hb : Bytes w a len) :
    Calls Tryd.prog 18 #[.slice a len cap] w (PT w) := by
  have HB : Hid (Bytes w a len) := hb
  clear hb
  go_enter Tryd.func18, Tryd.ntmps18
  go_wp2_with fail
  refine (Dr4.new _ a len cap HB.out).mono ?_
  rintro e w1 ⟨rfl, hc, hb1⟩
  have HC : Hid (Cur w1 w.heap.size a len cap) := hc
  have HB1 : Hid (Below w.heap.size w w1) := hb1
  clear hc hb1
  obtain ⟨b, hbb⟩ : ∃ b, b = w.heap.size := ⟨_, rfl⟩
  rw [← hbb] at HC ⊢
  have HBB : Hid (b = w.heap.size) := hbb
  clear hbb
  go_wp2_with fail
  refine (journalAny _ b a len cap HC.out).mono ?_
  rintro e w2 ⟨⟨S, rfl, hS⟩, hc, hk⟩
  have HC2 : Hid (Cur w2 b a len cap) := hc
  have HB2 : Hid (Below w.heap.size w w2) := HB1.out.trans (hk.below (fun k (e : k = b) => by have := HBB.out; omega) HB1.out.size)
  clear hc hk
  go_wp2_with fail
  refine (belowAny _ b a len cap _ (by omega) (by omega) HC2.out).mono ?_
  rintro e w3 ⟨⟨x, rfl, hx0, hx1⟩, hc, ho⟩
  have HC3 : Hid (Cur w3 b a len cap) := hc
  have HB3 : Hid (Below w.heap.size w w3) := HB2.out.trans ((only_kept ho).below (fun k (e : k = b) => by have := HBB.out; omega) HB2.out.size)
  clear hc ho
  go_wp2_with fail
  refine (once _ b a len cap 12 (by omega) (by omega) HC3.out).mono ?_
  rintro e w4 ⟨⟨y, rfl⟩, hc, ho⟩
  have HC4 : Hid (Cur w4 b a len cap) := hc
  have hb4 : b < w4.heap.size := Dr0.Cur.lt hc
  have HB4 : Hid (Below w.heap.size w w4) := HB3.out.trans ((only_kept ho).below (fun k (e : k = b) => by have := HBB.out; omega) HB3.out.size)
  clear hc ho
  cases y
  · go_wp2
    go_ret2
    exact ⟨⟨S, _, rfl, hS⟩, HB4.out⟩
  · have HI : Hid (Dr1.Ints (w4.alloc (.cells #[.int .i64 9223372036854775807, .int .i64 (-9223372036854775808)] 3)) w4.heap.size 2) := fun i hi => by
      rcases (show i = 0 ∨ i = 1 by omega) with rfl | rfl
      · exact ⟨_, by rw [World.cell?_alloc_new]; rfl⟩
      · exact ⟨_, by rw [World.cell?_alloc_new]; rfl⟩
    go_wp2_with fail
    refine (pickInt _ b a len cap w4.heap.size 2 2 (by omega) (by omega) (by omega) HI.out (cur_alloc HC4.out _)).mono ?_
    rintro e w5 ⟨⟨z, rfl⟩, hc, ho⟩
    have HB5 : Hid (Below w.heap.size w w5) := (HB4.out.alloc HB4.out.size _).trans ((only_kept ho).below (fun k (e : k = b) => by have := HBB.out; omega) (by have := HB4.out.size; simp; omega))
    clear hc ho
    go_wp2
    go_ret2
    exact ⟨⟨S, _, rfl, hS⟩, HB5.out⟩
end Go.Proofs.YtficonkpbohpeaaDoor.Jd1
