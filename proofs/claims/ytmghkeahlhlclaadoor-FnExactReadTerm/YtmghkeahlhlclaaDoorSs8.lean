/- The walk of the model's reading of a text. -/
import Derived.Test.YtmghkeahlhlclaaDoorSs7
namespace Go.Proofs.YtmghkeahlhlclaaDoor.Ss8
open Go.RowKit
open Nd0 Nd3 Tm0 Tx0 Tx1 Ss0 Ss1 Ss2 Ss3 Ss4 Ss5 Ss5b Ss6 Ss7
open Ws1 (ret_int ret_bool)
set_option linter.unusedVariables false

/-- What reading a whole text does. -/
def TPost (w : World) (s : List UInt8) (e : Ending) (w' : World) : Prop :=
  ∃ (a : Option Addr) (c : Nat), e = .returned (.tuple #[.slice a (readL s).1.length c, .int .i64 (readL s).2.1, .int .i64 (readL s).2.2]) ∧ Nodes w' a (readL s).1 ∧ Below w.heap.size w w'
theorem tpost {w : World} {s : List UInt8} {e : Ending} {w' : World} {l : List Nd} {x y : Int} (h : readL s = (l, x, y)) (a : Option Addr) (c : Nat) (he : e = .returned (.tuple #[.slice a l.length c, .int .i64 x, .int .i64 y])) (hn : Nodes w' a l) (hb : Below w.heap.size w w') : TPost w s e w' := by
  unfold TPost; rw [h]; exact ⟨a, c, he, hn, hb⟩
theorem read_long {s : List UInt8} (h : 4000 < s.length) : readL s = ([], 1, 0) := by unfold readL; rw [if_pos h]
theorem read_err {s : List UInt8} (h : ¬ 4000 < s.length) {x : Int × Nat} (e : rdL (s.length + 1) ⟨0, s, []⟩ = .error x) : readL s = ([], x.1, (x.2 : Int)) := by
  unfold readL; rw [if_neg h, e]
theorem read_left {s : List UInt8} (h : ¬ 4000 < s.length) {st : Rd} {i : Nat} (e : rdL (s.length + 1) ⟨0, s, []⟩ = .ok (st, i)) (hr : ¬ st.r.length = 0) : readL s = ([], 5, (st.p : Int)) := by
  unfold readL; rw [if_neg h, e]; simp only; rw [if_neg hr]
theorem read_ok {s : List UInt8} (h : ¬ 4000 < s.length) {st : Rd} {i : Nat} (e : rdL (s.length + 1) ⟨0, s, []⟩ = .ok (st, i)) (hr : st.r.length = 0) : readL s = (st.t.take (i + 1), 0, 0) := by
  unfold readL; rw [if_neg h, e]; simp only; rw [if_pos hr]
theorem nodes_nil (w : World) (a : Option Addr) : Nodes w a [] := ⟨Nat.zero_le _, .inl rfl⟩
theorem nodes_take' {w : World} {a : Option Addr} {L : List Nd} (h : Nodes w a L) {m : Nat} (hm : m ≤ L.length) : Nodes w a (L.take m) := by
  refine ⟨by rw [List.length_take]; have := h.1; omega, ?_⟩
  by_cases h0 : m = 0
  · exact .inl (by subst h0; simp)
  · rcases h.2 with e | ⟨b, o, he, hc⟩
    · omega
    · refine .inr ⟨b, o, he, fun i hi => ?_⟩
      have hi' : i < L.length := by rw [List.length_take] at hi; omega
      rw [List.getElem_take]; exact hc i hi'

set_option maxRecDepth 100000 in
set_option maxHeartbeats 2000000 in
theorem sReadTerm (w : World) (S : ByteArray) (hsz : S.size ≤ 2097152) :
    Calls Tryd.prog 11 #[.string S] w (TPost w (tl S)) := by
  have hsl := tl_length S
  by_cases hl : 4000 < S.size
  · have HE : Hid (readL (tl S) = ([], 1, 0)) := read_long (by omega)
    have hlz : (4000 : Int) < (S.size : Int) := by omega
    clear hsl hl
    go_enter Tryd.func11, Tryd.ntmps11
    go_wp2
    refine bodyPost_ret (v := .tuple #[.slice (some ⟨w.heap.size, 0, none⟩) 0 0, .int .i64 1, .int .i64 0]) (by simp [results, Tryd.results11, go_sem]) rfl ?_
    exact tpost HE.out _ _ rfl (nodes_nil _ _) ((Below.refl _ _).alloc (Nat.le_refl _) _)
  · have hlz : ¬ (4000 : Int) < (S.size : Int) := by omega
    have HNL : Hid (¬ 4000 < (tl S).length) := by show ¬ _; omega
    have hs4 : S.size ≤ 4000 := by omega
    obtain ⟨w1, hw1⟩ : ∃ w1 : World, w1 = w.alloc (.cells #[] 39) := ⟨_, rfl⟩
    obtain ⟨w2, hw2⟩ : ∃ w2 : World, w2 = w1.alloc (.cells #[.string S, .int .i64 0, .slice none 0 0, .int .i64 0, .int .i64 0] 47) := ⟨_, rfl⟩
    obtain ⟨b, hb⟩ : ∃ b : Nat, b = w1.heap.size := ⟨_, rfl⟩
    have hb1 : Below w.heap.size w w1 := by rw [hw1]; exact (Below.refl _ _).alloc (Nat.le_refl _) _
    have hb2 : Below w1.heap.size w1 w2 := by rw [hw2]; exact (Below.refl _ _).alloc (Nat.le_refl _) _
    have HB2 : Hid (Below w.heap.size w w2) := hb1.trans (hb2.mono hb1.size)
    have hbw : w.heap.size ≤ b := by rw [hb]; exact hb1.size
    have hbs : b < w2.heap.size := by rw [hw2, hb]; simp
    have HR2 : Hid (RS w2 b S (fun k => k = b) ⟨0, tl S, []⟩ 0) := by
      refine ⟨⟨none, 0, ?_, nodes_nil _ _, fun x h0 _ => by simp at h0, Nat.zero_le _⟩, rfl, Nat.zero_le _, ⟨by simp, fun k hk => by simp at hk⟩⟩
      rw [hw2, hb]
      refine ⟨?_, ?_, ?_, ?_, ?_, by simp, by simp, by simp, by simp⟩
      all_goals
        rw [World.cell?_alloc_new]
        rfl
    have HFB : Hid (Fb w2 b (fun k => k = b)) := ⟨rfl, fun k hk => by have e : k = b := hk; omega⟩
    have HW : Hid (w2 = (w.alloc (.cells #[] 39)).alloc (.cells #[.string S, .int .i64 0, .slice none 0 0, .int .i64 0, .int .i64 0] 47) ∧ b = w.heap.size + 1) := by
      constructor
      · rw [hw2, hw1]
      · rw [hb, hw1]; simp
    clear hw1 hw2 hb hb1 hb2 hl
    go_enter Tryd.func11, Tryd.ntmps11
    go_wp2_with fail
    rw [← HW.out.1, ← HW.out.2]
    clear HW
    refine (rdC ((tl S).length + 1) w2 b S _ ⟨0, tl S, []⟩ 0 HFB.out HR2.out hs4 (by simp)).mono ?_
    rintro e w3 ⟨hk3, her, hok⟩
    have HB3 : Hid (Below w.heap.size w w3) := ⟨hk3.os.trans HB2.out.os, hk3.tape.trans HB2.out.tape, hk3.output.trans HB2.out.output, Nat.le_trans HB2.out.size hk3.size, fun k hk => (hk3.block k (Nat.lt_of_lt_of_le hk HB2.out.size) (fun e => by have e' : k = b := e; omega)).trans (HB2.out.block k hk)⟩
    cases hrd : rdL ((tl S).length + 1) ⟨0, tl S, []⟩ with
    | error x =>
      obtain ⟨rfl, pp, tv, hrc⟩ := her x hrd
      have hx := (rd_fail _ _ x hrd).1
      have HE : Hid (readL (tl S) = ([], x.1, (x.2 : Int))) := read_err HNL.out hrd
      obtain ⟨x1, x2⟩ := x
      have q3 := hrc.c3
      have q4 := hrc.c4
      simp only at q3 q4 hx HE
      have hx0 : (x1 == 0) = false := by rcases hx with e | e | e <;> rw [e] <;> rfl
      have hx1 : (x1 != 0) = true := by rcases hx with e | e | e <;> rw [e] <;> rfl
      clear hrd her hok hk3 hrc HR2 hx
      go_wp2
      go_quiet (fail)
      go_wp2
      refine bodyPost_ret (v := .tuple #[.slice (some ⟨w.heap.size, 0, none⟩) 0 0, .int .i64 x1, .int .i64 x2]) (by simp [results, Tryd.results11, go_sem]) rfl ?_
      exact tpost HE.out _ _ rfl (nodes_nil _ _) ⟨HB3.out.os, HB3.out.tape, HB3.out.output, HB3.out.size, HB3.out.block⟩
    | ok x =>
      obtain ⟨st, i⟩ := x
      obtain ⟨rfl, hr3⟩ := hok st i hrd
      have HR3 : Hid (RS w3 b S (fun k => k = b) st 0) := hr3
      have HFB3 : Hid (Fb w3 b (fun k => k = b)) := fb_kept HFB.out hk3.size
      have hpl := rd_place hrd
      obtain ⟨ta, tc, hrc, htn, haw, htc⟩ := hr3.rl
      have q1 := hrc.c1
      have q2 := hrc.c2
      have q3 := hrc.c3
      have hrr := hr3.r
      have hpp := hr3.p
      have hlen := left_len S st.p
      rw [← hrr] at hlen
      by_cases h0 : st.r.length = 0
      · have HE : Hid (readL (tl S) = (st.t.take (i + 1), 0, 0)) := read_ok HNL.out hrd h0
        have hz : ¬ (st.p : Int) < (S.size : Int) := by omega
        have hfit := hr3.fit.1
        have HTN : Hid (Nodes w3 ta (st.t.take (i + 1))) := nodes_take' htn (by omega)
        have hcz : (i : Int) + 1 ≤ (tc : Int) := by omega
        have HTL : Hid ((st.t.take (i + 1)).length = i + 1) := by show _ = _; rw [List.length_take]; omega
        clear hrd her hok hk3 hrc HR2 htn haw hr3 hrr h0 hlen
        go_wp2
        refine bodyPost_ret (v := .tuple #[.slice ta (i + 1) tc, .int .i64 0, .int .i64 0]) (by simp [results, Tryd.results11, go_sem]) rfl ?_
        exact tpost HE.out ta tc (by rw [HTL.out]) HTN.out HB3.out
      · have HE : Hid (readL (tl S) = ([], 5, (st.p : Int))) := read_left HNL.out hrd h0
        have hz : (st.p : Int) < (S.size : Int) := by omega
        clear hrd her hok hk3 hrc HR2 htn haw hr3 hrr h0 hlen
        go_wp2_with fail
        refine (failR _ b S _ HFB3.out _ 0 HR3.out 5 st.p _ rfl).mono ?_
        rintro e w4 ⟨rfl, ⟨pp, tv, hrc4⟩, hk4⟩
        have q3' := hrc4.c3
        have q4' := hrc4.c4
        simp only at q3' q4'
        have HB4 : Hid (Below w.heap.size w w4) := ⟨hk4.os.trans HB3.out.os, hk4.tape.trans HB3.out.tape, hk4.output.trans HB3.out.output, Nat.le_trans HB3.out.size hk4.size, fun k hk => (hk4.block k (Nat.lt_of_lt_of_le hk HB3.out.size) (fun e => by have e' : k = b := e; omega)).trans (HB3.out.block k hk)⟩
        clear hrc4 hk4 q1 q2 q3
        go_wp2
        go_quiet (fail)
        go_wp2
        refine bodyPost_ret (v := .tuple #[.slice (some ⟨w.heap.size, 0, none⟩) 0 0, .int .i64 5, .int .i64 st.p]) (by simp [results, Tryd.results11, go_sem]) rfl ?_
        exact tpost HE.out _ _ rfl (nodes_nil _ _) ⟨HB4.out.os, HB4.out.tape, HB4.out.output, HB4.out.size, HB4.out.block⟩

end Go.Proofs.YtmghkeahlhlclaaDoor.Ss8
