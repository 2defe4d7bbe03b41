/- The program's netOf, GraphOk. -/
import Derived.Test.YtnpfegfjejfaaaaGp2
namespace Go.Proofs.Ytnpfegfjejfaaaa.Gp3
open Go.RowKit
open Nd0 Qb0 Qb2 Gr0 Mq0 Nt0 Gp1 Gp2
set_option linter.unusedVariables false

def gv (ins : Int) (a : Option Addr) (n c : Nat) : Value := .agg #[.int .i64 ins, .slice a n c]
set_option maxHeartbeats 2000000 in
theorem iNew (ins : Int) (w : World) : Calls Try.prog 47 #[.int .i64 ins] w fun e w' => e = .returned (.pointer (some ⟨w.heap.size + 1, 0, none⟩)) ∧ Ne w' (fun k => k < w.heap.size) (w.heap.size + 1) ins [] ∧ Below w.heap.size w w' := by
  have hmm := @run_makeMap Try.prog
  go_enter Try.func47, Try.ntmps47
  go_wp2
  go_ret
  have K : Kept (fun _ => False) (w.alloc (.map #[] 0)) ((w.alloc (.map #[] 0)).alloc (.cells #[.int .i64 ins, .slice none 0 0, .map (some w.heap.size)] 81)) := (Kept.refl _ _).alloc _
  have hs : (w.alloc (.map #[] 0)).heap.size = w.heap.size + 1 := by simp
  refine ⟨rfl, ⟨.slice none 0 0, w.heap.size, ?_⟩, ((Below.refl _ _).alloc (Nat.le_refl _) _).alloc (by simp) _⟩
  rw [← hs]
  refine ⟨by rw [World.cell?_alloc_new]; rfl, by rw [World.cell?_alloc_new]; rfl, by rw [World.cell?_alloc_new]; rfl, by simp, by simp, by simp, ⟨rfl, .inl ⟨rfl, rfl⟩⟩, (Mq.new w ins).kept K (fun e => e), by omega, by simp [Value.ownBlock], by simp [Value.ownBlock], by simp, by simp, by simp [Value.ownBlock], fun k hk => by simp; omega⟩

/-- What netOf does: a net in new memory, or none. -/
def NetPost (w : World) (ins : Int) (l : List An) (e : Ending) (w' : World) : Prop :=
  (gokB ins l = false ∧ e = .returned (.tuple #[.pointer none, .bool false]) ∧ Below w.heap.size w w') ∨
  (gokB ins l = true ∧ ∃ p, e = .returned (.tuple #[.pointer (some ⟨p, 0, none⟩), .bool true]) ∧ Ne w' (fun k => k < w.heap.size) p ins l ∧ Below w.heap.size w w')
theorem NetPost.no {w w' : World} {ins : Int} {l : List An} (h : gokB ins l = false) (hb : Below w.heap.size w w') : NetPost w ins l (.returned (.tuple #[.pointer none, .bool false])) w' := .inl ⟨h, rfl, hb⟩
theorem keptB {B : Nat} {w w' : World} (h : Kept (fun k => ¬ k < B) w w') (hB : B ≤ w.heap.size) : Below B w w' := h.below (fun k hk => by omega) hB

set_option maxRecDepth 100000 in
set_option maxHeartbeats 4000000 in
theorem iNetOf (w : World) (ins : Int) (a : Option Addr) (c : Nat) (l : List An) (h : Ans w a l) :
    Calls Try.prog 52 #[.agg #[.int .i64 ins, .slice a l.length c]] w (NetPost w ins l) := by
  have H : Hid (Ans w a l) := h
  have hm := h.1
  unfold maxLen at hm
  clear h
  by_cases hi0 : ins < 0
  · have hg : gokB ins l = false := gok_no (by omega)
    go_enter Try.func52, Try.ntmps52
    go_wp2
    go_ret2
    exact NetPost.no hg ((Below.refl _ _).alloc (Nat.le_refl _) _)
  by_cases hi1 : 12 < ins
  · have hg : gokB ins l = false := gok_no (by omega)
    go_enter Try.func52, Try.ntmps52
    go_wp2
    go_ret2
    exact NetPost.no hg ((Below.refl _ _).alloc (Nat.le_refl _) _)
  by_cases hl : 3000 < l.length
  · have hg : gokB ins l = false := gok_no (by omega)
    have hlz : (3000 : Int) < (l.length : Int) := by omega
    go_enter Try.func52, Try.ntmps52
    go_wp2
    go_ret2
    exact NetPost.no hg ((Below.refl _ _).alloc (Nat.le_refl _) _)
  have hlz : ¬ (3000 : Int) < (l.length : Int) := by omega
  have h0 : 0 ≤ ins := by omega
  have h1 : ins ≤ 12 := by omega
  go_enter Try.func52, Try.ntmps52
  go_wp2_with fail
  refine (iNew ins _).mono ?_
  rintro e w2 ⟨rfl, hne, hb2⟩
  generalize hW : w.alloc (.cells #[.int .i64 ins, .slice a l.length c] 29) = W at *
  have HWB : Hid (Below w.heap.size w W) := by rw [← hW]; exact (Below.refl _ _).alloc (Nat.le_refl _) _
  have HW : Hid (W.cell? ⟨w.heap.size, 1, none⟩ = some (.slice a l.length c)) := by show _ = _; rw [← hW, World.cell?_alloc_new]; rfl
  have hWs : w.heap.size < W.heap.size := by rw [← hW]; simp
  clear hW
  generalize W.heap.size + 1 = p at hne ⊢
  have HNE : Hid (Ne w2 (fun k => k < W.heap.size) p ins []) := hne
  have HB2 : Hid (Below W.heap.size W w2) := hb2
  have c1 : w2.cell? ⟨w.heap.size, 1, none⟩ = some (.slice a l.length c) := by rw [hb2.cell hWs]; exact HW.out
  clear hne hb2
  go_wp2
  go_loopw [28] (fun i wr => ∃ k : Nat, k ≤ l.length ∧ i = .int .i64 k ∧ okL ins (l.take k) = true ∧ Ne wr (fun k => k < W.heap.size) p ins (l.take k) ∧ Below W.heap.size W wr) (fun i _ => l.length - (intOf i).toNat)
  case atStart => exact ⟨0, Nat.zero_le _, rfl, rfl, HNE.out, HB2.out⟩
  case round =>
    obtain ⟨k, hk, rfl, hok, hnet, hbw⟩ := hrel
    have HO : Hid (okL ins (l.take k) = true) := hok
    have HN : Hid (Ne wr (fun k => k < W.heap.size) p ins (l.take k)) := hnet
    have HBW : Hid (Below W.heap.size W wr) := hbw
    clear hok hnet hbw
    by_cases hlt : k < l.length
    · have hkz : (k : Int) < (l.length : Int) := by omega
      have HA := (H.out.below HWB.out).below HBW.out
      rcases HA.2 with e | ⟨xb, xo, rfl, hc⟩
      · omega
      obtain ⟨p0, p1⟩ := hc k hlt
      have hx : xb < wr.heap.size := (hc k hlt).lt
      rw [nth_get hlt] at p0 p1
      clear hc HA
      have htk : (l.take k).length = k := by rw [List.length_take]; omega
      have HTK : Hid ((l.take k).length = k) := htk
      have HTS : Hid (l.take (k + 1) = l.take k ++ [nth l k]) := take_snoc hlt
      obtain ⟨xx, hxx⟩ : ∃ xx, xx = nth l k := ⟨_, rfl⟩
      have HXX : Hid (xx = nth l k) := hxx
      rw [← hxx] at p0 p1
      clear hxx htk
      go_wp2_with fail
      obtain ⟨v, bm, hn⟩ := HN.out
      obtain ⟨W3, hW3⟩ : ∃ W3, W3 = (wr.alloc (.cells #[.int .i64 xx.a, .int .i64 xx.b] 89)).alloc (.cells #[.int .i64 xx.a, .int .i64 xx.b] 112) := ⟨_, rfl⟩
      have HB3 : Hid (Below wr.heap.size wr W3) := by rw [hW3]; exact ((Below.refl _ _).alloc (Nat.le_refl _) _).alloc (by simp) _
      have hs3 : wr.heap.size + 1 < W3.heap.size := by rw [hW3]; simp
      have y0 : W3.cell? ⟨wr.heap.size + 1, 0, none⟩ = some (.int .i64 xx.a) := by
        have e : (wr.alloc (.cells #[.int .i64 xx.a, .int .i64 xx.b] 89)).heap.size = wr.heap.size + 1 := by simp
        rw [hW3, ← e, World.cell?_alloc_new]; rfl
      have y1 : W3.cell? ⟨wr.heap.size + 1, 1, none⟩ = some (.int .i64 xx.b) := by
        have e : (wr.alloc (.cells #[.int .i64 xx.a, .int .i64 xx.b] 89)).heap.size = wr.heap.size + 1 := by simp
        rw [hW3, ← e, World.cell?_alloc_new]; rfl
      have HN3 : Hid (Nt W3 (fun k => k < W.heap.size) p ins (l.take k) v bm) := hn.below HB3.out
      rw [← hW3]
      clear hW3 hn
      refine (iTakes HN3.out h0 h1 (by rw [HTK.out]; omega) xx).mono ?_
      rintro e w4 ⟨rfl, hb4⟩
      have HB4 : Hid (Below W3.heap.size W3 w4) := hb4
      have hbw4 : Below W.heap.size W w4 := HBW.out.trans ((HB3.out.mono HBW.out.size).trans (hb4.mono (Nat.le_trans HBW.out.size HB3.out.size)))
      have HBW4 : Hid (Below W.heap.size W w4) := hbw4
      have x0 : w4.cell? ⟨wr.heap.size + 1, 0, none⟩ = some (.int .i64 xx.a) := by rw [hb4.cell hs3]; exact y0
      have x1 : w4.cell? ⟨wr.heap.size + 1, 1, none⟩ = some (.int .i64 xx.b) := by rw [hb4.cell hs3]; exact y1
      clear hb4 y0 y1 hbw4
      cases htb : takeB ins (l.take k) xx with
      | false =>
        have hg : gokB ins l = false := by rw [gok_of h0 h1 (by omega)]; exact ok_stop hlt (by rw [← HXX.out]; exact htb)
        have HG : Hid (gokB ins l = false) := hg
        clear hg htb
        go_wp2
        go_ret2
        exact NetPost.no HG.out (HWB.out.trans (HBW4.out.mono (Nat.le_of_lt hWs)))
      | true =>
        have HTB : Hid (takeB ins (l.take k) xx = true) := htb
        clear htb
        go_wp2_with fail
        obtain ⟨g1, g2, g3, g4⟩ := take_facts HTB.out
        rw [HTK.out] at g3
        have hsm : Sm xx := ⟨by omega, by omega, by omega, by omega⟩
        refine (iPut ⟨v, bm, HN3.out.below HB4.out⟩ h0 h1 (by rw [HTK.out]; omega) xx hsm g4).mono ?_
        rintro e w5 ⟨rfl, hne5, hk5⟩
        have HN5 : Hid (Ne w5 (fun k => k < W.heap.size) p ins (l.take (k + 1))) := by show Ne _ _ _ _ _; rw [HTS.out, ← HXX.out]; exact hne5
        have HO5 : Hid (okL ins (l.take (k + 1)) = true) := by show _ = _; rw [HTS.out, ← HXX.out]; exact ok_snoc HO.out HTB.out
        have HB5 : Hid (Below W.heap.size W w5) := HBW4.out.trans (keptB hk5 HBW4.out.size)
        clear hne5 hk5 g1 g2 g3 g4 hsm x0 x1 p0 p1
        go_wp2
        go_roundw
        case rel => exact ⟨k + 1, by omega, by go_num, HO5.out, HN5.out, HB5.out⟩
        case measure => simp [intOf]; omega
    · have e : k = l.length := by omega
      subst e
      go_wp2
      go_ret2
      have ht : l.take l.length = l := List.take_length
      refine .inr ⟨by rw [gok_of h0 h1 (by omega)]; have := HO.out; rwa [ht] at this, p, rfl, ?_, HWB.out.trans (HBW.out.mono (Nat.le_of_lt hWs))⟩
      have := HN.out
      rw [ht] at this
      exact this.narrow (fun k hk => by omega)

set_option maxHeartbeats 2000000 in
theorem iGraphOk (w : World) (ins : Int) (a : Option Addr) (c : Nat) (l : List An) (h : Ans w a l) :
    Calls Try.prog 17 #[.agg #[.int .i64 ins, .slice a l.length c]] w fun e w' => e = .returned (.bool (gokB ins l)) ∧ Below w.heap.size w w' := by
  have H : Hid (Ans w a l) := h
  clear h
  go_enter Try.func17, Try.ntmps17
  go_wp2_with fail
  have hb : Below w.heap.size w (w.alloc (.cells #[.int .i64 ins, .slice a l.length c] 29)) := (Below.refl _ _).alloc (Nat.le_refl _) _
  refine (iNetOf _ ins a c l (H.out.below hb)).mono ?_
  rintro e w2 (⟨hg, rfl, hb2⟩ | ⟨hg, p, rfl, _, hb2⟩)
  all_goals
    have HG : Hid (gokB ins l = _) := hg
    have HB : Hid (Below w.heap.size w w2) := hb.trans (hb2.mono hb.size)
    clear hg hb hb2
    go_wp2
    go_ret
    exact ⟨by rw [HG.out]; rfl, HB.out⟩

end Go.Proofs.Ytnpfegfjejfaaaa.Gp3
