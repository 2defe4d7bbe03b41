/- The walks of the program's reader: failures, and single bytes. -/
import Derived.WalkSmall
import Derived.WalkLawsBesides
import Derived.Test.YtmghkeahlhlclaaDoorIc3
import Derived.Test.YtmghkeahlhlclaaDoorPx0
namespace Go.Proofs.YtmghkeahlhlclaaDoor.Pr1
open Go.RowKit
open Nd0 Nd3 Tm0 Tx0 Tx1 Ss0 Ss1 Tb0 Px0
open Ss3 (kept_set)
open Ss5 (Kb)
open Ws1 (ret_int ret_bool)
set_option linter.unusedVariables false

/-- A failure of the reader, as the program panics with it. -/
def fl (x : Er) : PanicEntry := { v := .iface 51 (.agg #[.int .i64 x.1, .int .i64 x.2]), recovered := false }

theorem iFail (c : Int) (q : Nat) (w : World) :
    Calls Tryd.prog 28 #[.int .i64 c, .int .i64 q] w fun e w' => e = .panicked [fl (c, q)] ∧ w' = w := by
  go_enter Tryd.func28, Tryd.ntmps28
  go_wp2
  exact ⟨rfl, rfl, rfl⟩

/-- The program's reader lies in block b: the text, the place, the list's slice, the map. -/
structure RB (w : World) (b : Nat) (S : ByteArray) (p : Nat) (v : Value) (bm : Nat) : Prop where
  c0 : w.cell? ⟨b, 0, none⟩ = some (.string S)
  c1 : w.cell? ⟨b, 1, none⟩ = some (.int .i64 p)
  c2 : w.cell? ⟨b, 2, none⟩ = some v
  c3 : w.cell? ⟨b, 3, none⟩ = some (.map (some bm))
  f1 : w.frozen? ⟨b, 1, none⟩ = false
  f2 : w.frozen? ⟨b, 2, none⟩ = false
theorem RB.lt {w : World} {b : Nat} {S : ByteArray} {p : Nat} {v : Value} {bm : Nat} (h : RB w b S p v bm) : b < w.heap.size := lt_of_cell (p := ⟨b, 0, none⟩) h.c0
theorem RB.kept {w w' : World} {b : Nat} {S : ByteArray} {p : Nat} {v : Value} {bm : Nat} (h : RB w b S p v bm) {D : Nat → Prop} (k : Kept D w w') (hd : ¬ D b) : RB w' b S p v bm :=
  ⟨by rw [k.cell h.lt hd]; exact h.c0, by rw [k.cell h.lt hd]; exact h.c1, by rw [k.cell h.lt hd]; exact h.c2, by rw [k.cell h.lt hd]; exact h.c3, by rw [k.frozen h.lt hd]; exact h.f1, by rw [k.frozen h.lt hd]; exact h.f2⟩
theorem RB.below {w w' : World} {b : Nat} {S : ByteArray} {p : Nat} {v : Value} {bm : Nat} (h : RB w b S p v bm) (k : Below w.heap.size w w') : RB w' b S p v bm := h.kept (D := fun _ => False) (Kept.ofBelow k) (fun e => e)
theorem RB.drewN {w : World} {b : Nat} {S : ByteArray} {p : Nat} {v : Value} {bm : Nat} (h : RB w b S p v bm) (m : Nat) : RB (w.drewN m) b S p v bm := ⟨h.c0, h.c1, h.c2, h.c3, h.f1, h.f2⟩
theorem RB.move {w : World} {b : Nat} {S : ByteArray} {p : Nat} {v : Value} {bm : Nat} (h : RB w b S p v bm) (q : Nat) (x : Int) (hx : x = (q : Int)) : RB (w.setCell ⟨b, 1, none⟩ (.int .i64 x)) b S q v bm := by
  subst hx
  exact ⟨by rw [set_other (by simp)]; exact h.c0, set_same h.c1, by rw [set_other (by simp)]; exact h.c2, by rw [set_other (by simp)]; exact h.c3, by simpa using h.f1, by simpa using h.f2⟩

/-- What a step of the reader leaves: a value, or a failure. -/
def Out {α : Type} (r : Except Er α) (good : α → Prop) (bad : Er → Prop) : Prop := (∀ a, r = .ok a → good a) ∧ (∀ x, r = .error x → bad x)
theorem Out.ok {α : Type} {r : Except Er α} {good : α → Prop} {bad : Er → Prop} {a : α} (h : r = .ok a) (g : good a) : Out r good bad := ⟨fun x hx => (by rw [h] at hx; cases hx; exact g), fun x hx => (by rw [h] at hx; cases hx)⟩
theorem Out.error {α : Type} {r : Except Er α} {good : α → Prop} {bad : Er → Prop} {x : Er} (h : r = .error x) (g : bad x) : Out r good bad := ⟨fun a ha => (by rw [h] at ha; cases ha), fun y hy => (by rw [h] at hy; cases hy; exact g)⟩

theorem iDig (c : UInt8) (w : World) : Calls Tryd.prog 77 #[.int .u8 (c.toNat : Int)] w fun e w' => e = .returned (.bool (isDig c)) ∧ w' = w := by
  have HD : Hid (isDig c = decide (48 ≤ c.toNat ∧ c.toNat ≤ 57)) := rfl
  by_cases h1 : (48 : Int) ≤ (c.toNat : Int)
  · by_cases h2 : (c.toNat : Int) ≤ 57
    · have HE : Hid (isDig c = true) := by show _ = _; rw [HD.out]; simp; omega
      go_enter Tryd.func77, Tryd.ntmps77
      go_wp2
      go_ret
      exact ⟨ret_bool HE.out.symm, rfl⟩
    · have HE : Hid (isDig c = false) := by show _ = _; rw [HD.out]; simp; omega
      go_enter Tryd.func77, Tryd.ntmps77
      go_wp2
      go_ret
      exact ⟨ret_bool HE.out.symm, rfl⟩
  · have HE : Hid (isDig c = false) := by show _ = _; rw [HD.out]; simp; omega
    go_enter Tryd.func77, Tryd.ntmps77
    go_wp2
    go_ret
    exact ⟨ret_bool HE.out.symm, rfl⟩

/-- The byte at place p, or 0. -/
def nx (s : List UInt8) (p : Nat) : UInt8 := s.getD p 0
theorem tl_at {S : ByteArray} {p : Nat} (h : p < S.size) : (tl S)[p]? = some S[p] := by
  rw [List.getElem?_eq_getElem (by rw [tl_length]; exact h)]; rfl
theorem tl_off {S : ByteArray} {p : Nat} (h : S.size ≤ p) : (tl S)[p]? = none := List.getElem?_eq_none (by rw [tl_length]; exact h)
theorem nx_in {S : ByteArray} {p : Nat} (h : p < S.size) : nx (tl S) p = S[p] := by
  unfold nx; rw [List.getD_eq_getElem?_getD, tl_at h]; rfl
theorem nx_off {S : ByteArray} {p : Nat} (h : S.size ≤ p) : nx (tl S) p = 0 := by
  unfold nx; rw [List.getD_eq_getElem?_getD, tl_off h]; rfl

set_option maxHeartbeats 1000000 in
theorem iNext (w : World) (b : Nat) (S : ByteArray) (p : Nat) (v : Value) (bm : Nat) (h : RB w b S p v bm) (hs : S.size ≤ 100000) (hp : p ≤ S.size) :
    Calls Tryd.prog 43 #[.pointer (some ⟨b, 0, none⟩)] w fun e w' => e = .returned (.int .u8 ((nx (tl S) p).toNat : Int)) ∧ Below w.heap.size w w' := by
  obtain ⟨c0, c1, c2, c3, f1, f2⟩ := h
  clear c2 c3 f1 f2
  by_cases hlt : p < S.size
  · have hpz : (p : Int) < (S.size : Int) := by omega
    have hq : ((p : Int) == (S.size : Int)) = false := by rw [beq_eq_false_iff_ne]; omega
    have HX : Hid (nx (tl S) p = S[p]) := nx_in hlt
    go_enter Tryd.func43, Tryd.ntmps43
    go_wp2
    go_quiet (fail)
    go_wp2
    go_quiet (fail)
    go_wp2
    go_ret
    exact ⟨by rw [HX.out]; rfl, ⟨rfl, rfl, rfl, Nat.le_refl _, fun _ _ => rfl⟩⟩
  · have hq : ((p : Int) == (S.size : Int)) = true := by rw [beq_iff_eq]; omega
    have HX : Hid (nx (tl S) p = 0) := nx_off (by omega)
    go_enter Tryd.func43, Tryd.ntmps43
    go_wp2
    go_quiet (fail)
    go_wp2
    go_ret
    exact ⟨by rw [HX.out]; rfl, ⟨rfl, rfl, rfl, Nat.le_refl _, fun _ _ => rfl⟩⟩

set_option maxHeartbeats 1000000 in
theorem iNeed (w : World) (b : Nat) (S : ByteArray) (p : Nat) (v : Value) (bm : Nat) (c : UInt8) (st : Nat) (h : RB w b S p v bm) (hs : S.size ≤ 100000) (hp : p ≤ S.size) :
    Calls Tryd.prog 64 #[.pointer (some ⟨b, 0, none⟩), .int .u8 (c.toNat : Int), .int .i64 st] w fun e w' => Out (pNeed (tl S) c st p) (fun q => e = .returned (.tuple #[]) ∧ RB w' b S q v bm ∧ q ≤ S.size) (fun x => e = .panicked [fl x]) ∧ Kb b w w' := by
  have H : Hid (RB w b S p v bm) := h
  obtain ⟨c0, c1, c2, c3, f1, f2⟩ := h
  clear c2 c3 f2
  by_cases hlt : p < S.size
  · have hpz : (p : Int) < (S.size : Int) := by omega
    have hq : ((p : Int) == (S.size : Int)) = false := by rw [beq_eq_false_iff_ne]; omega
    by_cases hc : S[p] = c
    · have HP : Hid (pNeed (tl S) c st p = .ok (p + 1)) := by
        show _ = _
        unfold pNeed; rw [tl_at hlt, hc, if_pos rfl]
      have hcq : ((S[p].toNat : Int) != (c.toNat : Int)) = false := by rw [hc]; simp
      clear hc
      go_enter Tryd.func64, Tryd.ntmps64
      go_wp2
      go_quiet (fail)
      go_wp2
      go_end0
      exact ⟨Out.ok HP.out ⟨rfl, (H.out.drewN _).move _ _ (by simp), by omega⟩, kept_set ((Kept.refl _ _).drewN _) _⟩
    · have HP : Hid (pNeed (tl S) c st p = .error (2, st)) := by
        show _ = _
        unfold pNeed; rw [tl_at hlt, if_neg (fun e => hc (Option.some.inj e))]
      have hcq : ((S[p].toNat : Int) != (c.toNat : Int)) = true := by
        have : S[p].toNat ≠ c.toNat := fun e => hc (UInt8.toNat_inj.1 e)
        simp; omega
      clear hc
      go_enter Tryd.func64, Tryd.ntmps64
      go_wp2
      go_quiet (fail)
      go_wp2_with fail
      refine (iFail _ _ _).mono ?_
      rintro e w' ⟨rfl, rfl⟩
      go_wp2
      exact ⟨rfl, Out.error HP.out rfl, (Kept.refl _ _).drewN _⟩
  · have hq : ((p : Int) == (S.size : Int)) = true := by rw [beq_iff_eq]; omega
    have HP : Hid (pNeed (tl S) c st p = .error (2, st)) := by
      show _ = _
      unfold pNeed; rw [tl_off (by omega), if_neg (by simp)]
    go_enter Tryd.func64, Tryd.ntmps64
    go_wp2
    go_quiet (fail)
    go_wp2_with fail
    refine (iFail _ _ _).mono ?_
    rintro e w' ⟨rfl, rfl⟩
    go_wp2
    exact ⟨rfl, Out.error HP.out rfl, (Kept.refl _ _).drewN _⟩

set_option maxHeartbeats 1000000 in
theorem iEnd (w : World) (b : Nat) (S : ByteArray) (p : Nat) (v : Value) (bm : Nat) (st : Nat) (h : RB w b S p v bm) (hs : S.size ≤ 100000) (hp : p ≤ S.size) :
    Calls Tryd.prog 66 #[.pointer (some ⟨b, 0, none⟩), .int .i64 st] w fun e w' => Out (pEnd (tl S) st p) (fun q => e = .returned (.tuple #[]) ∧ q = p) (fun x => e = .panicked [fl x]) ∧ ∃ m, w' = w.drewN m := by
  have H : Hid (RB w b S p v bm) := h
  obtain ⟨c0, c1, c2, c3, f1, f2⟩ := h
  clear c2 c3 f1 f2
  by_cases hlt : p < S.size
  · have hpz : (p : Int) < (S.size : Int) := by omega
    by_cases h1 : S[p] = 32
    · have HP : Hid (pEnd (tl S) st p = .ok p) := by
        show _ = _
        unfold pEnd; rw [tl_at hlt, h1, if_pos (.inr (.inl rfl))]
      have hcq : ((S[p].toNat : Int) != 32) = false := by rw [h1]; rfl
      clear h1
      go_enter Tryd.func66, Tryd.ntmps66
      go_wp2
      go_quiet (fail)
      go_wp2
      go_end0
      exact ⟨Out.ok HP.out ⟨rfl, rfl⟩, _, rfl⟩
    · have hcq : ((S[p].toNat : Int) != 32) = true := by
        have : S[p].toNat ≠ 32 := fun e => h1 (UInt8.toNat_inj.1 e)
        simp; omega
      by_cases h2 : S[p] = 41
      · have HP : Hid (pEnd (tl S) st p = .ok p) := by
          show _ = _
          unfold pEnd; rw [tl_at hlt, h2, if_pos (.inr (.inr rfl))]
        have hcr : ((S[p].toNat : Int) != 41) = false := by rw [h2]; rfl
        clear h1 h2
        go_enter Tryd.func66, Tryd.ntmps66
        go_wp2
        go_quiet (fail)
        go_wp2
        go_end0
        exact ⟨Out.ok HP.out ⟨rfl, rfl⟩, _, rfl⟩
      · have hcr : ((S[p].toNat : Int) != 41) = true := by
          have : S[p].toNat ≠ 41 := fun e => h2 (UInt8.toNat_inj.1 e)
          simp; omega
        have HP : Hid (pEnd (tl S) st p = .error (2, st)) := by
          show _ = _
          unfold pEnd; rw [tl_at hlt, if_neg (by rintro (e | e | e); cases e; exact h1 (Option.some.inj e); exact h2 (Option.some.inj e))]
        clear h1 h2
        go_enter Tryd.func66, Tryd.ntmps66
        go_wp2
        go_quiet (fail)
        go_wp2_with fail
        refine (iFail _ _ _).mono ?_
        rintro e w' ⟨rfl, rfl⟩
        go_wp2
        exact ⟨rfl, Out.error HP.out rfl, _, rfl⟩
  · have hpz : ¬ (p : Int) < (S.size : Int) := by omega
    have HP : Hid (pEnd (tl S) st p = .ok p) := by
      show _ = _
      unfold pEnd; rw [tl_off (by omega), if_pos (.inl rfl)]
    go_enter Tryd.func66, Tryd.ntmps66
    go_wp2
    go_quiet (fail)
    go_wp2
    go_end0
    exact ⟨Out.ok HP.out ⟨rfl, rfl⟩, _, rfl⟩

end Go.Proofs.YtmghkeahlhlclaaDoor.Pr1
