/- The program's reader of records: one record. -/
import Derived.WalkMore
import Derived.ScopeJumps
import Derived.Test.YtficonkpbohpeaaDoorJn3
namespace Go.Proofs.YtficonkpbohpeaaDoor.Jn4
open Go.RowKit
open Tx0 Zk0 Zt0 Jn0 Jn3
open Nd0 (lt_of_cell Kept set_other set_same)
open Ss0 (bs bs_size ret_str)
open Ss1 (tl tl_bs bs_tl tl_length tl_ext tl_inj)
set_option linter.unusedVariables false

theorem jump_ret {l : Nat} {J : Act → World → Prop} {Q : Exit → Act → World → Prop} {a : Act} {w : World} : Exit.jump l J Q .ret a w = Q .ret a w := rfl
theorem jump_goto {l m : Nat} {J : Act → World → Prop} {Q : Exit → Act → World → Prop} {a : Act} {w : World} : Exit.jump l J Q (.goto m) a w = (m = l ∧ J a w) := rfl
/-- A reader in block b: the journal S, at byte p; behind it v. -/
structure RJ (w : World) (b : Nat) (S : ByteArray) (p : Nat) (v : Value) : Prop where
  c0 : w.cell? ⟨b, 0, none⟩ = some (.string S)
  c1 : w.cell? ⟨b, 1, none⟩ = some (.int .i64 p)
  c2 : w.cell? ⟨b, 2, none⟩ = some v
  f1 : w.frozen? ⟨b, 1, none⟩ = false
  f2 : w.frozen? ⟨b, 2, none⟩ = false
theorem RJ.lt {w : World} {b : Nat} {S : ByteArray} {p : Nat} {v : Value} (h : RJ w b S p v) : b < w.heap.size := lt_of_cell (p := ⟨b, 0, none⟩) h.c0
theorem RJ.kept {w w' : World} {b : Nat} {S : ByteArray} {p : Nat} {v : Value} (h : RJ w b S p v) {D : Nat → Prop} (k : Kept D w w') (hd : ¬ D b) : RJ w' b S p v :=
  ⟨by rw [k.cell h.lt hd]; exact h.c0, by rw [k.cell h.lt hd]; exact h.c1, by rw [k.cell h.lt hd]; exact h.c2, by rw [k.frozen h.lt hd]; exact h.f1, by rw [k.frozen h.lt hd]; exact h.f2⟩
theorem RJ.below {w w' : World} {b : Nat} {S : ByteArray} {p : Nat} {v : Value} (h : RJ w b S p v) (k : Below w.heap.size w w') : RJ w' b S p v := h.kept (D := fun _ => False) (Kept.ofBelow k) (fun e => e)
theorem RJ.drewN {w : World} {b : Nat} {S : ByteArray} {p : Nat} {v : Value} (h : RJ w b S p v) (m : Nat) : RJ (w.drewN m) b S p v := ⟨h.c0, h.c1, h.c2, h.f1, h.f2⟩
theorem RJ.move {w : World} {b : Nat} {S : ByteArray} {p : Nat} {v : Value} (h : RJ w b S p v) (q : Nat) (x : Int) (hx : x = (q : Int)) : RJ (w.setCell ⟨b, 1, none⟩ (.int .i64 x)) b S q v := by
  subst hx
  exact ⟨by rw [set_other (by simp)]; exact h.c0, set_same h.c1, by rw [set_other (by simp)]; exact h.c2, by simpa using h.f1, by simpa using h.f2⟩
theorem RJ.put {w : World} {b : Nat} {S : ByteArray} {p : Nat} {v : Value} (h : RJ w b S p v) (u : Value) : RJ (w.setCell ⟨b, 2, none⟩ u) b S p u :=
  ⟨by rw [set_other (by simp)]; exact h.c0, by rw [set_other (by simp)]; exact h.c1, set_same h.c2, by simpa using h.f1, by simpa using h.f2⟩

/-- What next tells of the record at byte p. -/
def NxP (w' : World) (b : Nat) (S : ByteArray) (p : Nat) (v : Value) (e : Ending) : Prop :=
  (recN ((tl S).drop p) = none → e = .returned (.tuple #[.string ⟨#[]⟩, .bool false]) ∧ RJ w' b S p v) ∧
  (∀ s k, recN ((tl S).drop p) = some (s, k) → e = .returned (.tuple #[.string (bs s), .bool true]) ∧ RJ w' b S (p + k) v)
theorem NxP.no {w' : World} {b : Nat} {S : ByteArray} {p : Nat} {v : Value} (h : recN ((tl S).drop p) = none) (hr : RJ w' b S p v) : NxP w' b S p v (.returned (.tuple #[.string ⟨#[]⟩, .bool false])) :=
  ⟨fun _ => ⟨rfl, hr⟩, fun s k e => (by rw [h] at e; cases e)⟩
theorem NxP.yes {w' : World} {b : Nat} {S : ByteArray} {p : Nat} {v : Value} {s : List UInt8} {k : Nat} (h : recN ((tl S).drop p) = some (s, k)) {T : ByteArray} (hT : T = bs s) (hr : RJ w' b S (p + k) v) : NxP w' b S p v (.returned (.tuple #[.string T, .bool true])) :=
  ⟨(fun e => by rw [h] at e; cases e), fun s' k' e => by rw [h] at e; cases e; exact ⟨by rw [hT], hr⟩⟩
theorem recN_num {l : List UInt8} (h : numL (cutF 58 l) = none) : recN l = none := by unfold recN; rw [h]
theorem recN_big {l : List UInt8} {n : Nat} (h : numL (cutF 58 l) = some n) (h4 : 400000 < n) : recN l = none := by unfold recN; rw [h]; simp only; rw [if_neg (by omega)]
theorem recN_end {l : List UInt8} {n : Nat} (h : numL (cutF 58 l) = some n) (h4 : (cutS 58 l)[n]? ≠ some 59) : recN l = none := by unfold recN; rw [h]; simp only; rw [if_neg (fun e => h4 e.2)]
theorem recN_yes {l : List UInt8} {n : Nat} (h : numL (cutF 58 l) = some n) (h4 : n ≤ 400000) (h5 : (cutS 58 l)[n]? = some 59) : recN l = some ((cutS 58 l).take n, (cutF 58 l).length + n + 2) := by unfold recN; rw [h]; simp only; rw [if_pos ⟨h4, h5⟩]

set_option maxRecDepth 100000 in
set_option maxHeartbeats 4000000 in
theorem iNext (w : World) (b : Nat) (S : ByteArray) (p : Nat) (v : Value) (hT : TabZ w) (h : RJ w b S p v) (hs : S.size ≤ 100000000) (hp : p ≤ S.size) :
    Calls Tryd.prog 39 #[.pointer (some ⟨b, 0, none⟩)] w fun e w' => NxP w' b S p v e ∧ Kept (fun i => i = b) w w' := by
  have HT : Hid (TabZ w) := hT
  have HM : Hid _ := hT.max
  have H : Hid (RJ w b S p v) := h
  have hpz : (p : Int) ≤ (S.size : Int) := by omega
  obtain ⟨X, hX⟩ : ∃ X, S.extract p S.size = X := ⟨_, rfl⟩
  have htl : tl X = (tl S).drop p := by
    rw [← hX, tl_ext, List.take_of_length_le (by rw [tl_length]; omega)]
  have hXs : X.size ≤ S.size := by
    have := congrArg List.length htl
    rw [tl_length, List.length_drop, tl_length] at this
    omega
  have HX : Hid (tl X = (tl S).drop p) := htl
  have HCU : Hid (∀ W, (∃ m, W.cell? ⟨1, 0, none⟩ = some (.int .i64 m)) → Calls Tryd.prog 44 #[.string X, .string ⟨#[58]⟩] W fun e w' => e = .returned (.tuple #[.string (bs (cutF 58 (tl X))), .string (bs (cutS 58 (tl X))), .bool (Lib.cut (tl X) [58]).2.2]) ∧ ∃ n, w' = W.drewN n) := fun W hW => iCutB 58 X W hW (by omega)
  obtain ⟨A, hA⟩ : ∃ A, A = cutF 58 (tl X) := ⟨_, rfl⟩
  obtain ⟨B, hB⟩ : ∃ B, B = cutS 58 (tl X) := ⟨_, rfl⟩
  have hAl : A.length ≤ X.size := by rw [hA, ← tl_length]; exact cutF_le _ _
  have hBl : B.length ≤ X.size := by rw [hB, ← tl_length]; exact cutS_le _ _
  have HSH : Hid (∀ W, TabZ W → Calls Tryd.prog 45 #[.string (bs A)] W fun e w' => ShP A e ∧ Below W.heap.size W w') := fun W hW => by
    have := iShortA (bs A) W hW (by rw [bs_size]; omega)
    rw [tl_bs] at this
    exact this
  have HA : Hid (A = cutF 58 ((tl S).drop p)) := by show _ = _; rw [hA, htl]
  have HB : Hid (B = cutS 58 ((tl S).drop p)) := by show _ = _; rw [hB, htl]
  rw [← hA, ← hB] at HCU
  obtain ⟨cb, hcb⟩ : ∃ c, c = (Lib.cut (tl X) [58]).2.2 := ⟨_, rfl⟩
  rw [← hcb] at HCU
  have hAz : (bs A).size = A.length := bs_size A
  have hBz : (bs B).size = B.length := bs_size B
  have hBs : ∀ k : Nat, k ≤ B.length → (tl ((bs B).extract k (bs B).size))[0]? = B[k]? := fun k hk => by
    rw [tl_ext, tl_bs, hBz, List.take_of_length_le (Nat.le_refl _), List.getElem?_drop, Nat.add_zero]
  have hBt : ∀ k : Nat, (bs B).extract 0 k = bs (B.take k) := fun k => by rw [Ss0.bs_ext, List.drop_zero]
  have HBS : Hid _ := hBs
  have HBT : Hid _ := hBt
  obtain ⟨AS, hAS⟩ : ∃ A', A' = bs A := ⟨_, rfl⟩
  obtain ⟨BS, hBS⟩ : ∃ B', B' = bs B := ⟨_, rfl⟩
  rw [← hAS] at HCU HSH hAz
  rw [← hBS] at HCU hBz HBS HBT
  have HAZ : Hid (AS.size = A.length) := hAz
  have HBZ : Hid (BS.size = B.length) := hBz
  have hAS8 : AS.size ≤ 100000000 := by omega
  have hBS8 : BS.size ≤ 100000000 := by omega
  have hp8 : p ≤ 100000000 := by omega
  clear hA hB hcb htl hAS hBS hBs hBt hT hAz hBz hAl hBl hXs
  have c0 := h.c0
  have c1 := h.c1
  clear h
  go_enter Tryd.func39, Tryd.ntmps39
  go_wp2
  refine wp_scope_jumps 0 (fun a' w' => (∃ u0 u1 u2 u3 u4 u5 u6 u7 u8 u9 u10 u11 u12 u13 u14 u15 u16 u17 u18 u19 u20 u21 u22 u23 u24 u25 u26 u27 u28 u29 u30 u31 u32 u33 u34 u35 u36 u37 u38 u39 u40 u41 u42 u43 u44 u45 u46 u47 u48 u49 u50 u51 u52 u53 u54 u55 u56 u57 u58 u59 u60 : Value, a' = { tmps := #[u0, u1, u2, u3, u4, u5, u6, u7, u8, u9, u10, u11, u12, u13, u14, u15, u16, u17, u18, u19, u20, u21, u22, u23, u24, u25, u26, u27, u28, u29, u30, u31, u32, u33, u34, u35, u36, u37, u38, u39, u40, u41, u42, u43, u44, u45, u46, u47, u48, u49, u50, u51, u52, u53, u54, u55, u56, u57, u58, u59, u60], defers := [] }) ∧ recN ((tl S).drop p) = none ∧ RJ w' b S p v ∧ Kept (fun i => i = b) w w') (fun _ _ => 0) rfl ?_ ?_
  · go_wp2_with fail
    go_quiet ((go_at_call 44; exact Calls.quiet_of (HCU.out _ HM.out)))
    have HZ1 : Hid (TabZ (w.drewN nq)) := HT.out.below (Tc2.below_drewN (Below.refl _ _) nq)
    have HR1 : Hid (RJ (w.drewN nq) b S p v) := H.out.drewN nq
    have HK1 : Hid (Kept (fun i => i = b) w (w.drewN nq)) := (Kept.refl _ _).drewN nq
    clear c0 c1 HCU HM hX
    go_wp2_with fail
    refine (HSH.out _ HZ1.out).mono ?_
    rintro e w2 ⟨⟨x, rfl, hxk⟩, hb2⟩
    have HR2 : Hid (RJ w2 b S p v) := HR1.out.below hb2
    have HK2 : Hid (Kept (fun i => i = b) w w2) := HK1.out.trans (Kept.ofBelow hb2)
    clear hb2 HZ1 HR1 HK1 HSH
    cases hn : numL A with
    | none =>
      have HF : Hid (recN ((tl S).drop p) = none) := recN_num (by rw [← HA.out]; exact hn)
      clear hxk hn
      go_wp2
      go_step3
      exact ⟨rfl, ⟨_, _, _, _, _, _, _, _, _, _, _, _, _, _, _, _, _, _, _, _, _, _, _, _, _, _, _, _, _, _, _, _, _, _, _, _, _, _, _, _, _, _, _, _, _, _, _, _, _, _, _, _, _, _, _, _, _, _, _, _, _, rfl⟩, HF.out, HR2.out, HK2.out⟩
    | some n =>
      have HNN : Hid (numL (cutF 58 ((tl S).drop p)) = some n) := by show _ = _; rw [← HA.out]; exact hn
      obtain rfl := hxk n hn
      have hn9 : n < 10 ^ 9 := (num_some hn).2.1
      clear hxk hn
      by_cases h4 : (400000 : Int) < (n : Int)
      · have HF : Hid (recN ((tl S).drop p) = none) := recN_big HNN.out (by omega)
        go_wp2
        go_step3
        exact ⟨rfl, ⟨_, _, _, _, _, _, _, _, _, _, _, _, _, _, _, _, _, _, _, _, _, _, _, _, _, _, _, _, _, _, _, _, _, _, _, _, _, _, _, _, _, _, _, _, _, _, _, _, _, _, _, _, _, _, _, _, _, _, _, _, _, rfl⟩, HF.out, HR2.out, HK2.out⟩
      by_cases h5 : (BS.size : Int) < (n : Int)
      · have HF : Hid (recN ((tl S).drop p) = none) := recN_end HNN.out (by rw [← HB.out, List.getElem?_eq_none (by have := HBZ.out; omega)]; simp)
        go_wp2
        go_step3
        exact ⟨rfl, ⟨_, _, _, _, _, _, _, _, _, _, _, _, _, _, _, _, _, _, _, _, _, _, _, _, _, _, _, _, _, _, _, _, _, _, _, _, _, _, _, _, _, _, _, _, _, _, _, _, _, _, _, _, _, _, _, _, _, _, _, _, _, rfl⟩, HF.out, HR2.out, HK2.out⟩
      have hnB : n ≤ B.length := by have := HBZ.out; omega
      have hnz : (n : Int) ≤ (BS.size : Int) := by omega
      have HQ : Hid (decide ((tl (BS.extract n BS.size))[0]? = some 59) = decide (B[n]? = some 59)) := by show _ = _; rw [HBS.out n hnB]
      obtain ⟨Y, hY⟩ : ∃ Y, BS.extract n BS.size = Y := ⟨_, rfl⟩
      have hYs : Y.size ≤ 100000000 := by rw [← hY, ByteArray.size_extract]; omega
      have HHP : Hid _ := iHasP Y 59 w2 hYs
      rw [hY] at HQ
      rw [HQ.out] at HHP
      clear HQ hYs
      by_cases h6 : B[n]? = some 59
      · rw [decide_eq_true h6] at HHP
        have HF : Hid (recN ((tl S).drop p) = some (B.take n, A.length + n + 2)) := by show _ = _; rw [recN_yes HNN.out (by omega) (by rw [← HB.out]; exact h6), HA.out, HB.out]
        have HE : Hid (BS.extract 0 n = bs (B.take n)) := HBT.out n
        clear h6
        go_wp2_with fail
        refine Calls.mono HHP.out ?_
        rintro e w3 ⟨rfl, rfl⟩
        have c1 := HR2.out.c1
        have f1 := HR2.out.f1
        have HM2 : Hid (∀ y : Int, y = ((p + (A.length + n + 2) : Nat) : Int) → RJ (w3.setCell ⟨b, 1, none⟩ (.int .i64 y)) b S (p + (A.length + n + 2)) v) := fun y hy => HR2.out.move _ y hy
        have HKK : Hid (∀ y : Int, Kept (fun i => i = b) w (w3.setCell ⟨b, 1, none⟩ (.int .i64 y))) := fun y => HK2.out.setCell (p := ⟨b, 1, none⟩) rfl _
        go_wp2
        simp only [jump_ret]
        go_ret2
        refine ⟨NxP.yes HF.out HE.out (HM2.out _ (by have := HAZ.out; omega)), HKK.out _⟩
      · rw [decide_eq_false h6] at HHP
        have HF : Hid (recN ((tl S).drop p) = none) := recN_end HNN.out (by rw [← HB.out]; exact h6)
        clear h6
        go_wp2_with fail
        refine Calls.mono HHP.out ?_
        rintro e w3 ⟨rfl, rfl⟩
        go_wp2
        go_step3
        exact ⟨rfl, ⟨_, _, _, _, _, _, _, _, _, _, _, _, _, _, _, _, _, _, _, _, _, _, _, _, _, _, _, _, _, _, _, _, _, _, _, _, _, _, _, _, _, _, _, _, _, _, _, _, _, _, _, _, _, _, _, _, _, _, _, _, _, rfl⟩, HF.out, HR2.out, HK2.out⟩
  · rintro a' w' ⟨⟨u0, u1, u2, u3, u4, u5, u6, u7, u8, u9, u10, u11, u12, u13, u14, u15, u16, u17, u18, u19, u20, u21, u22, u23, u24, u25, u26, u27, u28, u29, u30, u31, u32, u33, u34, u35, u36, u37, u38, u39, u40, u41, u42, u43, u44, u45, u46, u47, u48, u49, u50, u51, u52, u53, u54, u55, u56, u57, u58, u59, u60, rfl⟩, hn, hr, hk⟩
    have HN : Hid (recN ((tl S).drop p) = none) := hn
    have HR : Hid (RJ w' b S p v) := hr
    have HK : Hid (Kept (fun i => i = b) w w') := hk
    clear hn hr hk c0 c1
    go_wp2
    simp only [jump_ret]
    go_ret2
    exact ⟨NxP.no HN.out HR.out, HK.out⟩
end Go.Proofs.YtficonkpbohpeaaDoor.Jn4
