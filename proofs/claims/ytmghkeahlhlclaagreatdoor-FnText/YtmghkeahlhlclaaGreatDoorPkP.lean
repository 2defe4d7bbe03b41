/- Small texts of mine, one behind the other. -/
import Derived.WalkSmall
import Derived.WalkLawsBesides
import Derived.Lib.AtoiAll
import Derived.Lib.SmallJoins
import Derived.LaidEql
import Derived.Defers
import Derived.Recover
import Derived.Laws.Pointers
import Derived.Deep.RegionHeld
import Derived.Test.YtmghkeahlhlclaaGreatDoorIc3
import Derived.Test.YtmghkeahlhlclaaGreatDoorPkH
import Derived.Test.YtmghkeahlhlclaaGreatDoorPt1
import Derived.Test.YtmghkeahlhlclaaGreatDoorShelf2
/- The walks of the program's reader: failures, and single bytes. -/
namespace Go.Proofs.YtmghkeahlhlclaaGreatDoor.Pr1
open Go.RowKit
open Nd0 Nd3 Tm0 Tx0 Tx1 Ss0 Ss1 Tb0 Px0
open Ss3 (kept_set)
open Ss5 (Kb)
open Ws1 (ret_int ret_bool)
set_option linter.unusedVariables false

/-- A failure of the reader, as the program panics with it. -/
def fl (x : Er) : PanicEntry := { v := .iface 50 (.agg #[.int .i64 x.1, .int .i64 x.2]), recovered := false }

theorem iFail (c : Int) (q : Nat) (w : World) :
    Calls Tryz.prog 32 #[.int .i64 c, .int .i64 q] w fun e w' => e = .panicked [fl (c, q)] ∧ w' = w := by
  go_enter Tryz.func32, Tryz.ntmps32
  go_wp2
  exact ⟨rfl, rfl, rfl⟩

/-- The program's reader lies in block b: the text, the place, the list's slice, the map. -/
structure RB (w : World) (b : Nat) (S : ByteArray) (p : Nat) (v : Value) (bm : Nat) : Prop where
  c0 : w.cell? ⟨b, 0, none⟩ = some (.string S)
  c1 : w.cell? ⟨b, 1, none⟩ = some (.int .i64 p)
  c2 : w.cell? ⟨b, 2, none⟩ = some v
  c3 : w.cell? ⟨b, 3, none⟩ = some (.map (some bm))
  f1 : w.frozen? ⟨b, 1, none⟩ = false
  f2 : w.frozen? ⟨b, 2, none⟩ = false
theorem RB.lt {w : World} {b : Nat} {S : ByteArray} {p : Nat} {v : Value} {bm : Nat} (h : RB w b S p v bm) : b < w.heap.size := lt_of_cell (p := ⟨b, 0, none⟩) h.c0
theorem RB.kept {w w' : World} {b : Nat} {S : ByteArray} {p : Nat} {v : Value} {bm : Nat} (h : RB w b S p v bm) {D : Nat → Prop} (k : Kept D w w') (hd : ¬ D b) : RB w' b S p v bm :=
  ⟨by rw [k.cell h.lt hd]; exact h.c0, by rw [k.cell h.lt hd]; exact h.c1, by rw [k.cell h.lt hd]; exact h.c2, by rw [k.cell h.lt hd]; exact h.c3, by rw [k.frozen h.lt hd]; exact h.f1, by rw [k.frozen h.lt hd]; exact h.f2⟩
theorem RB.below {w w' : World} {b : Nat} {S : ByteArray} {p : Nat} {v : Value} {bm : Nat} (h : RB w b S p v bm) (k : Below w.heap.size w w') : RB w' b S p v bm := h.kept (D := fun _ => False) (Kept.ofBelow k) (fun e => e)
theorem RB.drewN {w : World} {b : Nat} {S : ByteArray} {p : Nat} {v : Value} {bm : Nat} (h : RB w b S p v bm) (m : Nat) : RB (w.drewN m) b S p v bm := ⟨h.c0, h.c1, h.c2, h.c3, h.f1, h.f2⟩
theorem RB.move {w : World} {b : Nat} {S : ByteArray} {p : Nat} {v : Value} {bm : Nat} (h : RB w b S p v bm) (q : Nat) (x : Int) (hx : x = (q : Int)) : RB (w.setCell ⟨b, 1, none⟩ (.int .i64 x)) b S q v bm := by
  subst hx
  exact ⟨by rw [set_other (by simp)]; exact h.c0, set_same h.c1, by rw [set_other (by simp)]; exact h.c2, by rw [set_other (by simp)]; exact h.c3, by simpa using h.f1, by simpa using h.f2⟩

/-- What a step of the reader leaves: a value, or a failure. -/
def Out {α : Type} (r : Except Er α) (good : α → Prop) (bad : Er → Prop) : Prop := (∀ a, r = .ok a → good a) ∧ (∀ x, r = .error x → bad x)
theorem Out.ok {α : Type} {r : Except Er α} {good : α → Prop} {bad : Er → Prop} {a : α} (h : r = .ok a) (g : good a) : Out r good bad := ⟨fun x hx => (by rw [h] at hx; cases hx; exact g), fun x hx => (by rw [h] at hx; cases hx)⟩
theorem Out.error {α : Type} {r : Except Er α} {good : α → Prop} {bad : Er → Prop} {x : Er} (h : r = .error x) (g : bad x) : Out r good bad := ⟨fun a ha => (by rw [h] at ha; cases ha), fun y hy => (by rw [h] at hy; cases hy; exact g)⟩

theorem iDig (c : UInt8) (w : World) : Calls Tryz.prog 100 #[.int .u8 (c.toNat : Int)] w fun e w' => e = .returned (.bool (isDig c)) ∧ w' = w := by
  have HD : Hid (isDig c = decide (48 ≤ c.toNat ∧ c.toNat ≤ 57)) := rfl
  by_cases h1 : (48 : Int) ≤ (c.toNat : Int)
  · by_cases h2 : (c.toNat : Int) ≤ 57
    · have HE : Hid (isDig c = true) := by show _ = _; rw [HD.out]; simp; omega
      go_enter Tryz.func100, Tryz.ntmps100
      go_wp2
      go_ret
      exact ⟨ret_bool HE.out.symm, rfl⟩
    · have HE : Hid (isDig c = false) := by show _ = _; rw [HD.out]; simp; omega
      go_enter Tryz.func100, Tryz.ntmps100
      go_wp2
      go_ret
      exact ⟨ret_bool HE.out.symm, rfl⟩
  · have HE : Hid (isDig c = false) := by show _ = _; rw [HD.out]; simp; omega
    go_enter Tryz.func100, Tryz.ntmps100
    go_wp2
    go_ret
    exact ⟨ret_bool HE.out.symm, rfl⟩

/-- The byte at place p, or 0. -/
def nx (s : List UInt8) (p : Nat) : UInt8 := s.getD p 0
theorem tl_at {S : ByteArray} {p : Nat} (h : p < S.size) : (tl S)[p]? = some S[p] := by
  rw [List.getElem?_eq_getElem (by rw [tl_length]; exact h)]; rfl
theorem tl_off {S : ByteArray} {p : Nat} (h : S.size ≤ p) : (tl S)[p]? = none := List.getElem?_eq_none (by rw [tl_length]; exact h)
theorem nx_in {S : ByteArray} {p : Nat} (h : p < S.size) : nx (tl S) p = S[p] := by
  unfold nx; rw [List.getD_eq_getElem?_getD, tl_at h]; rfl
theorem nx_off {S : ByteArray} {p : Nat} (h : S.size ≤ p) : nx (tl S) p = 0 := by
  unfold nx; rw [List.getD_eq_getElem?_getD, tl_off h]; rfl

set_option maxHeartbeats 1000000 in
theorem iNext (w : World) (b : Nat) (S : ByteArray) (p : Nat) (v : Value) (bm : Nat) (h : RB w b S p v bm) (hs : S.size ≤ 100000) (hp : p ≤ S.size) :
    Calls Tryz.prog 51 #[.pointer (some ⟨b, 0, none⟩)] w fun e w' => e = .returned (.int .u8 ((nx (tl S) p).toNat : Int)) ∧ Below w.heap.size w w' := by
  obtain ⟨c0, c1, c2, c3, f1, f2⟩ := h
  clear c2 c3 f1 f2
  by_cases hlt : p < S.size
  · have hpz : (p : Int) < (S.size : Int) := by omega
    have hq : ((p : Int) == (S.size : Int)) = false := by rw [beq_eq_false_iff_ne]; omega
    have HX : Hid (nx (tl S) p = S[p]) := nx_in hlt
    go_enter Tryz.func51, Tryz.ntmps51
    go_wp2
    go_quiet (fail)
    go_wp2
    go_quiet (fail)
    go_wp2
    go_ret
    exact ⟨by rw [HX.out]; rfl, ⟨rfl, rfl, rfl, Nat.le_refl _, fun _ _ => rfl⟩⟩
  · have hq : ((p : Int) == (S.size : Int)) = true := by rw [beq_iff_eq]; omega
    have HX : Hid (nx (tl S) p = 0) := nx_off (by omega)
    go_enter Tryz.func51, Tryz.ntmps51
    go_wp2
    go_quiet (fail)
    go_wp2
    go_ret
    exact ⟨by rw [HX.out]; rfl, ⟨rfl, rfl, rfl, Nat.le_refl _, fun _ _ => rfl⟩⟩

set_option maxHeartbeats 1000000 in
theorem iNeed (w : World) (b : Nat) (S : ByteArray) (p : Nat) (v : Value) (bm : Nat) (c : UInt8) (st : Nat) (h : RB w b S p v bm) (hs : S.size ≤ 100000) (hp : p ≤ S.size) :
    Calls Tryz.prog 76 #[.pointer (some ⟨b, 0, none⟩), .int .u8 (c.toNat : Int), .int .i64 st] w fun e w' => Out (pNeed (tl S) c st p) (fun q => e = .returned (.tuple #[]) ∧ RB w' b S q v bm ∧ q ≤ S.size) (fun x => e = .panicked [fl x]) ∧ Kb b w w' := by
  have H : Hid (RB w b S p v bm) := h
  obtain ⟨c0, c1, c2, c3, f1, f2⟩ := h
  clear c2 c3 f2
  by_cases hlt : p < S.size
  · have hpz : (p : Int) < (S.size : Int) := by omega
    have hq : ((p : Int) == (S.size : Int)) = false := by rw [beq_eq_false_iff_ne]; omega
    by_cases hc : S[p] = c
    · have HP : Hid (pNeed (tl S) c st p = .ok (p + 1)) := by
        show _ = _
        unfold pNeed; rw [tl_at hlt, hc, if_pos rfl]
      have hcq : ((S[p].toNat : Int) != (c.toNat : Int)) = false := by rw [hc]; simp
      clear hc
      go_enter Tryz.func76, Tryz.ntmps76
      go_wp2
      go_quiet (fail)
      go_wp2
      go_end0
      exact ⟨Out.ok HP.out ⟨rfl, (H.out.drewN _).move _ _ (by simp), by omega⟩, kept_set ((Kept.refl _ _).drewN _) _⟩
    · have HP : Hid (pNeed (tl S) c st p = .error (2, st)) := by
        show _ = _
        unfold pNeed; rw [tl_at hlt, if_neg (fun e => hc (Option.some.inj e))]
      have hcq : ((S[p].toNat : Int) != (c.toNat : Int)) = true := by
        have : S[p].toNat ≠ c.toNat := fun e => hc (UInt8.toNat_inj.1 e)
        simp; omega
      clear hc
      go_enter Tryz.func76, Tryz.ntmps76
      go_wp2
      go_quiet (fail)
      go_wp2_with fail
      refine (iFail _ _ _).mono ?_
      rintro e w' ⟨rfl, rfl⟩
      go_wp2
      exact ⟨rfl, Out.error HP.out rfl, (Kept.refl _ _).drewN _⟩
  · have hq : ((p : Int) == (S.size : Int)) = true := by rw [beq_iff_eq]; omega
    have HP : Hid (pNeed (tl S) c st p = .error (2, st)) := by
      show _ = _
      unfold pNeed; rw [tl_off (by omega), if_neg (by simp)]
    go_enter Tryz.func76, Tryz.ntmps76
    go_wp2
    go_quiet (fail)
    go_wp2_with fail
    refine (iFail _ _ _).mono ?_
    rintro e w' ⟨rfl, rfl⟩
    go_wp2
    exact ⟨rfl, Out.error HP.out rfl, (Kept.refl _ _).drewN _⟩

set_option maxHeartbeats 1000000 in
theorem iEnd (w : World) (b : Nat) (S : ByteArray) (p : Nat) (v : Value) (bm : Nat) (st : Nat) (h : RB w b S p v bm) (hs : S.size ≤ 100000) (hp : p ≤ S.size) :
    Calls Tryz.prog 78 #[.pointer (some ⟨b, 0, none⟩), .int .i64 st] w fun e w' => Out (pEnd (tl S) st p) (fun q => e = .returned (.tuple #[]) ∧ q = p) (fun x => e = .panicked [fl x]) ∧ ∃ m, w' = w.drewN m := by
  have H : Hid (RB w b S p v bm) := h
  obtain ⟨c0, c1, c2, c3, f1, f2⟩ := h
  clear c2 c3 f1 f2
  by_cases hlt : p < S.size
  · have hpz : (p : Int) < (S.size : Int) := by omega
    by_cases h1 : S[p] = 32
    · have HP : Hid (pEnd (tl S) st p = .ok p) := by
        show _ = _
        unfold pEnd; rw [tl_at hlt, h1, if_pos (.inr (.inl rfl))]
      have hcq : ((S[p].toNat : Int) != 32) = false := by rw [h1]; rfl
      clear h1
      go_enter Tryz.func78, Tryz.ntmps78
      go_wp2
      go_quiet (fail)
      go_wp2
      go_end0
      exact ⟨Out.ok HP.out ⟨rfl, rfl⟩, _, rfl⟩
    · have hcq : ((S[p].toNat : Int) != 32) = true := by
        have : S[p].toNat ≠ 32 := fun e => h1 (UInt8.toNat_inj.1 e)
        simp; omega
      by_cases h2 : S[p] = 41
      · have HP : Hid (pEnd (tl S) st p = .ok p) := by
          show _ = _
          unfold pEnd; rw [tl_at hlt, h2, if_pos (.inr (.inr rfl))]
        have hcr : ((S[p].toNat : Int) != 41) = false := by rw [h2]; rfl
        clear h1 h2
        go_enter Tryz.func78, Tryz.ntmps78
        go_wp2
        go_quiet (fail)
        go_wp2
        go_end0
        exact ⟨Out.ok HP.out ⟨rfl, rfl⟩, _, rfl⟩
      · have hcr : ((S[p].toNat : Int) != 41) = true := by
          have : S[p].toNat ≠ 41 := fun e => h2 (UInt8.toNat_inj.1 e)
          simp; omega
        have HP : Hid (pEnd (tl S) st p = .error (2, st)) := by
          show _ = _
          unfold pEnd; rw [tl_at hlt, if_neg (by rintro (e | e | e); cases e; exact h1 (Option.some.inj e); exact h2 (Option.some.inj e))]
        clear h1 h2
        go_enter Tryz.func78, Tryz.ntmps78
        go_wp2
        go_quiet (fail)
        go_wp2_with fail
        refine (iFail _ _ _).mono ?_
        rintro e w' ⟨rfl, rfl⟩
        go_wp2
        exact ⟨rfl, Out.error HP.out rfl, _, rfl⟩
  · have hpz : ¬ (p : Int) < (S.size : Int) := by omega
    have HP : Hid (pEnd (tl S) st p = .ok p) := by
      show _ = _
      unfold pEnd; rw [tl_off (by omega), if_pos (.inl rfl)]
    go_enter Tryz.func78, Tryz.ntmps78
    go_wp2
    go_quiet (fail)
    go_wp2
    go_end0
    exact ⟨Out.ok HP.out ⟨rfl, rfl⟩, _, rfl⟩

end Go.Proofs.YtmghkeahlhlclaaGreatDoor.Pr1

/- The walks of the program's reader: numbers. -/
namespace Go.Proofs.YtmghkeahlhlclaaGreatDoor.Pr2
open Go.RowKit
open Nd0 Nd3 Tm0 Tx0 Tx1 Ss0 Ss1 Tb0 Tb1 Px0 Pr1
open Pt1 (iItoa)
open Ss5 (Kb)
set_option linter.unusedVariables false

/-- What digits are worth behind others. -/
def valF (acc : Nat) (d : List UInt8) : Nat := d.foldl (fun n c => 10 * n + (c.toNat - 48)) acc
theorem valF_zero (d : List UInt8) : valF 0 d = valL d := rfl
theorem parse_digits : ∀ (d : List UInt8) (acc : Nat), (∀ c ∈ d, isDig c = true) → (acc + 1) * 10 ^ d.length ≤ 10 ^ 18 → Lib.parseUint10 acc d = .ok (valF acc d) := by
  intro d
  induction d with
  | nil => intro acc _ _; rfl
  | cons c r ih =>
    intro acc hd hb
    have hc := of_decide_eq_true (hd c (by simp))
    have hp : 0 < 10 ^ r.length := Nat.pow_pos (by omega)
    rw [List.length_cons, Nat.pow_succ] at hb
    have h1 : (acc + 1) * 10 * 10 ^ r.length ≤ 10 ^ 18 := by
      rw [Nat.mul_assoc, Nat.mul_comm 10]; exact hb
    have h2 : (acc + 1) * 10 ≤ 10 ^ 18 := Nat.le_trans (Nat.le_mul_of_pos_right _ hp) h1
    simp only [Lib.parseUint10]
    rw [if_pos hc, if_neg (by omega), if_neg (by omega), ih _ (fun x hx => hd x (by simp [hx]))]
    · unfold valF
      rw [List.foldl_cons, Nat.mul_comm acc]
    · refine Nat.le_trans (Nat.mul_le_mul_right _ ?_) h1
      omega
theorem atoi_digits {d : List UInt8} (hd : ∀ c ∈ d, isDig c = true) (h1 : 1 ≤ d.length) (h9 : d.length ≤ 9) : Lib.atoiAll d = .ok (valL d : Int) := by
  cases d with
  | nil => simp at h1
  | cons c r =>
    have hc := of_decide_eq_true (hd c (by simp))
    have hpw : 10 ^ (c :: r).length ≤ 10 ^ 9 := Nat.pow_le_pow_right (by omega) h9
    have hp := parse_digits (c :: r) 0 hd (by omega)
    have hv : valL (c :: r) < 10 ^ (c :: r).length := val_lt _ hd
    unfold Lib.atoiAll
    simp only
    rw [if_neg (by omega)]
    unfold Lib.parseMag
    rw [if_neg (by simp), hp, valF_zero]
    simp only
    rw [if_neg (by omega), if_neg (by omega), if_neg (by omega)]

theorem iAtoi {d : List UInt8} (w : World) (hd : ∀ c ∈ d, isDig c = true) (h1 : 1 ≤ d.length) (h9 : d.length ≤ 9) :
    Calls Tryz.prog 110 #[.string (bs d)] w fun e w' => e = .returned (.tuple #[.int .i64 (valL d : Int), .nilIface]) ∧ Below w.heap.size w w' := by
  refine (Tryz.strconv_Atoi_ok (bs d) (by rw [bs_size]; omega) _ (atoi_digits hd h1 h9) w).mono ?_
  rintro e w' ⟨rfl, h⟩
  refine ⟨rfl, ?_⟩
  rcases h with rfl | ⟨t, rfl⟩
  · exact Below.refl _ _
  · exact Go.Joins.below_bytesWorld _ _ _ _ (Nat.le_refl _)
theorem iAtoiNone (w : World) (hT : TabR w) :
    Calls Tryz.prog 110 #[.string (bs [])] w fun e w' => (∃ N, e = .returned (.tuple #[.int .i64 0, .iface 151 (.pointer (some ⟨N, 0, none⟩))])) ∧ Below w.heap.size w w' := by
  obtain ⟨te, pe, hc⟩ := hT.err
  refine (Tryz.strconv_Atoi_syntax (bs []) (by decide) rfl _ w hc (.inr ⟨te, pe, rfl⟩)).mono ?_
  rintro e w' ⟨N, rfl, _, _, hb⟩
  exact ⟨⟨N, rfl⟩, hb⟩

set_option maxHeartbeats 1000000 in
theorem iShort (d : List UInt8) (w : World) (hT : TabR w) (hd : ∀ c ∈ d, isDig c = true) :
    Calls Tryz.prog 101 #[.string (bs d)] w fun e w' => (∃ x : Int, e = .returned (.tuple #[.int .i64 x, .bool (numL d).isSome]) ∧ ∀ k, numL d = some k → x = (k : Int)) ∧ Below w.heap.size w w' := by
  have HT : Hid (TabR w) := hT
  have HD : Hid (∀ c ∈ d, isDig c = true) := hd
  clear hT hd
  have hz : (bs d).size = d.length := bs_size d
  by_cases h9 : 9 < d.length
  · have HN : Hid (numL d = none) := by show _ = _; unfold numL; rw [if_pos (.inr h9)]
    have h9z : (9 : Int) < ((bs d).size : Int) := by rw [hz]; omega
    clear hz
    go_enter Tryz.func101, Tryz.ntmps101
    go_wp2
    go_ret2
    rw [HN.out]
    exact ⟨⟨0, rfl, fun k hk => by cases hk⟩, Below.refl _ _⟩
  have h9z : ¬ (9 : Int) < ((bs d).size : Int) := by rw [hz]; omega
  by_cases h0 : d.length = 0
  · obtain rfl : d = [] := List.eq_nil_of_length_eq_zero h0
    clear hz h0
    go_enter Tryz.func101, Tryz.ntmps101
    go_wp2_with fail
    refine (iAtoiNone _ HT.out).mono ?_
    rintro e w1 ⟨⟨N, rfl⟩, hb1⟩
    go_wp2
    go_ret2
    exact ⟨⟨0, rfl, fun k hk => by cases hk⟩, hb1⟩
  · clear hz
    obtain ⟨k, hk⟩ : ∃ k, valL d = k := ⟨_, rfl⟩
    have HN : Hid (numL d = if dec k = d then some k else none) := by
      show _ = _
      unfold numL
      rw [if_neg (by omega), if_pos (List.all_eq_true.2 HD.out), hk]
    have hk9 : k < 1000000000 := by
      have := val_lt d HD.out
      have h2 : 10 ^ d.length ≤ 10 ^ 9 := Nat.pow_le_pow_right (by omega) (by omega)
      omega
    have HK : Hid (valL d = k) := hk
    have hk0 : (0 : Int) ≤ (k : Int) := by omega
    have HQ : Hid (((bs (dec k)).toList == (bs d).toList) = decide (dec k = d)) := by show _ = _; rw [eqb, tl_bs, tl_bs]
    clear hk
    go_enter Tryz.func101, Tryz.ntmps101
    go_wp2_with fail
    refine (iAtoi _ HD.out (by omega) (by omega)).mono ?_
    rw [HK.out]
    rintro e w1 ⟨rfl, hb1⟩
    have HB1 : Hid (Below w.heap.size w w1) := hb1
    clear hb1
    go_wp2_with fail
    refine (iItoa k hk9 _ (HT.out.below HB1.out).tabs).mono ?_
    rintro e w2 ⟨rfl, hb2⟩
    have HB2 : Hid (Below w.heap.size w w2) := HB1.out.trans (hb2.mono HB1.out.size)
    clear hb2
    go_wp2
    go_ret2
    refine ⟨⟨k, ?_, ?_⟩, HB2.out⟩
    · rw [HN.out]
      by_cases e : dec k = d
      · rw [if_pos e]; simp [e]
      · rw [if_neg e, HQ.out]; simp [e]
    · intro k' hk'
      rw [HN.out] at hk'
      split at hk'
      · cases hk'; rfl
      · cases hk'

theorem kb_of_below {b : Nat} {w w' : World} (h : Below w.heap.size w w') : Kb b w w' := ⟨h.os, h.tape, h.output, h.size, fun i hi _ => h.block i hi⟩
theorem drop_take_more {S : ByteArray} {p k : Nat} (hp : p ≤ k) (h : k < S.size) : ((tl S).take (k + 1)).drop p = ((tl S).take k).drop p ++ [S[k]] := Ss3.take_more hp h
theorem dig_ends {S : ByteArray} {p k : Nat} (hp : p ≤ k) (hk : k ≤ S.size) (ha : ∀ c ∈ ((tl S).take k).drop p, isDig c = true) (he : isDig (nx (tl S) k) = false) : pDig (tl S) p = ((tl S).take k).drop p := by
  unfold pDig
  have hsp := Ss3.left_split (S := S) hp
  unfold Ss3.left at hsp
  rw [hsp, List.takeWhile_append_of_pos ha]
  have : (List.drop k (tl S)).takeWhile isDig = [] := by
    by_cases h : k < S.size
    · have e := Ss3.left_cons h
      unfold Ss3.left at e
      rw [e, List.takeWhile_cons, if_neg]
      rw [← nx_in h, he]; simp
    · have e := Ss3.left_nil (S := S) (p := k) (by omega)
      unfold Ss3.left at e
      rw [e]; rfl
  rw [this, List.append_nil]

set_option maxRecDepth 100000 in
set_option maxHeartbeats 4000000 in
theorem iNumber (w : World) (b : Nat) (S : ByteArray) (p : Nat) (v : Value) (bm st : Nat) (hT : TabR w) (hg : ∀ w', Kb b w w' → TabR w') (h : RB w b S p v bm) (hs : S.size ≤ 100000) (hp : p ≤ S.size) :
    Calls Tryz.prog 77 #[.pointer (some ⟨b, 0, none⟩), .int .i64 st] w fun e w' => Out (pNum (tl S) st p) (fun y => e = .returned (.int .i64 (y.1 : Int)) ∧ RB w' b S y.2 v bm ∧ y.2 ≤ S.size) (fun x => e = .panicked [fl x]) ∧ Kb b w w' := by
  have H : Hid (RB w b S p v bm) := h
  have HG : Hid (∀ w', Kb b w w' → TabR w') := hg
  have c1 := h.c1
  clear h hT hg
  go_enter Tryz.func77, Tryz.ntmps77
  go_wp2
  clear c1
  go_loopw [12] (fun _ wr => ∃ k : Nat, p ≤ k ∧ k ≤ S.size ∧ RB wr b S k v bm ∧ Kb b w wr ∧ ∀ c ∈ ((tl S).take k).drop p, isDig c = true) (fun _ wr => S.size - (intOf ((wr.cell? ⟨b, 1, none⟩).getD undef)).toNat)
  case atStart => exact ⟨p, Nat.le_refl _, hp, H.out, Kept.refl _ _, fun c hc => by
    rw [List.drop_eq_nil_of_le (by rw [List.length_take]; omega)] at hc; cases hc⟩
  case round =>
    clear H
    obtain ⟨k, hpk, hk, hrc, hkept, ha⟩ := hrel
    have H : Hid (RB wr b S k v bm) := hrc
    have HK : Hid (Kb b w wr) := hkept
    have HA : Hid (∀ c ∈ ((tl S).take k).drop p, isDig c = true) := ha
    have c1 := hrc.c1
    clear hrc hkept ha
    go_wp2_with fail
    refine (iNext _ b S k v bm H.out hs hk).mono ?_
    rintro e w1 ⟨rfl, hb1⟩
    have H1 : Hid (RB w1 b S k v bm) := H.out.below hb1
    have HK1 : Hid (Kb b w w1) := HK.out.trans (kb_of_below hb1)
    clear hb1
    go_wp2_with fail
    refine (iDig _ _).mono ?_
    rintro e w2 ⟨rfl, rfl⟩
    cases hd : isDig (nx (tl S) k)
    · obtain ⟨d, hdd⟩ : ∃ d, ((tl S).take k).drop p = d := ⟨_, rfl⟩
      have HDE : Hid (pDig (tl S) p = d) := by show _ = _; rw [← hdd]; exact dig_ends hpk hk HA.out hd
      have HX : Hid (S.extract p k = bs d) := by show _ = _; apply tl_inj; rw [tl_ext, tl_bs]; exact hdd
      have HDL : Hid (p + d.length = k) := by show _ = _; rw [← hdd, List.length_drop, List.length_take, tl_length]; omega
      rw [hdd] at HA
      have hpz : (p : Int) ≤ (k : Int) := by omega
      have hkz : (k : Int) ≤ (S.size : Int) := by omega
      clear hdd
      go_wp2_with fail
      have HRD : Hid (RB w2.drew b S k v bm) := H1.out.drewN 1
      have HKD : Hid (Kb b w w2.drew) := HK1.out.drewN 1
      have HTD : Hid (TabR w2.drew) := HG.out _ HKD.out
      cases hn : numL d with
      | none =>
        have HNS : Hid ((numL d).isSome = false) := by show _ = _; rw [hn]; rfl
        have HP : Hid (pNum (tl S) st p = .error (2, st)) := by show _ = _; unfold pNum; rw [HDE.out, hn]
        clear hn
        refine wp_region_held_drew (S := fun w' => RB w' b S k v bm) (by kernel_rfl) (HRD.out) (fun hHeld => ?_)
        refine wpAnyH_take (i := 0) (v := ?_) rfl (by kernel_rfl) (by kernel_rfl) (by kernel_rfl) (fun _ _ _ h => h) (Or.inl ⟨by rfl, ?_⟩) hHeld ?_
        rotate_left
        · (intro v9 hS9; go_simp; try with_reducible rfl)
        try simp only [Act.put, List.setIfInBounds_toArray, List.set_cons_zero, List.set_cons_succ, List.getElem_toArray, List.getElem_cons_zero]
        refine wpAnyH_take (i := 1) (v := ?_) rfl (by kernel_rfl) (by kernel_rfl) (by kernel_rfl) (fun _ _ _ h => h) (Or.inl ⟨by rfl, ?_⟩) hHeld ?_
        rotate_left
        · (intro v9 hS9; go_simp; try with_reducible rfl)
        try simp only [Act.put, List.setIfInBounds_toArray, List.set_cons_zero, List.set_cons_succ, List.getElem_toArray, List.getElem_cons_zero, List.getElem_cons_succ]
        refine wpAnyH_take (i := 2) (v := ?_) rfl (by kernel_rfl) (by kernel_rfl) (by kernel_rfl) (fun _ _ _ h => h) (Or.inl ⟨by rfl, ?_⟩) hHeld ?_
        rotate_left
        · (intro v9 hS9; go_simp; try with_reducible rfl)
        try simp only [Act.put, List.setIfInBounds_toArray, List.set_cons_zero, List.set_cons_succ, List.getElem_toArray, List.getElem_cons_zero, List.getElem_cons_succ]
        refine wpAnyH_take (i := 3) (v := ?_) rfl (by kernel_rfl) (by kernel_rfl) (by kernel_rfl) (fun _ _ _ h => h) (Or.inl ⟨by rfl, ?_⟩) hHeld ?_
        rotate_left
        · (intro v9 hS9; obtain ⟨c0, c1, c2, c3, f1, f2⟩ := hS9; go_simp; try with_reducible rfl)
        try simp only [Act.put, List.setIfInBounds_toArray, List.set_cons_zero, List.set_cons_succ, List.getElem_toArray, List.getElem_cons_zero, List.getElem_cons_succ]
        refine wpAnyH_take (i := 4) (v := ?_) rfl (by kernel_rfl) (by kernel_rfl) (by kernel_rfl) (fun _ _ _ h => h) (Or.inl ⟨by rfl, ?_⟩) hHeld ?_
        rotate_left
        · (intro v9 hS9; go_simp; try with_reducible rfl)
        try simp only [Act.put, List.setIfInBounds_toArray, List.set_cons_zero, List.set_cons_succ, List.getElem_toArray, List.getElem_cons_zero, List.getElem_cons_succ]
        refine wpAnyH_take (i := 5) (v := ?_) rfl (by kernel_rfl) (by kernel_rfl) (by kernel_rfl) (fun _ _ _ h => h) (Or.inl ⟨by rfl, ?_⟩) hHeld ?_
        rotate_left
        · (intro v9 hS9; go_simp; try with_reducible rfl)
        try simp only [Act.put, List.setIfInBounds_toArray, List.set_cons_zero, List.set_cons_succ, List.getElem_toArray, List.getElem_cons_zero, List.getElem_cons_succ]
        refine wpAnyH_take (i := 6) (v := ?_) rfl (by kernel_rfl) (by kernel_rfl) (by kernel_rfl) (fun _ _ _ h => h) (Or.inl ⟨by rfl, ?_⟩) hHeld ?_
        rotate_left
        · (intro v9 hS9; go_simp; try with_reducible rfl)
        try simp only [Act.put, List.setIfInBounds_toArray, List.set_cons_zero, List.set_cons_succ, List.getElem_toArray, List.getElem_cons_zero, List.getElem_cons_succ]
        refine wpAnyH_take (i := 7) (v := ?_) rfl (by kernel_rfl) (by kernel_rfl) (by kernel_rfl) (fun _ _ _ h => h) (Or.inl ⟨by rfl, ?_⟩) hHeld ?_
        rotate_left
        · (intro v9 hS9; go_simp; try with_reducible rfl)
        try simp only [Act.put, List.setIfInBounds_toArray, List.set_cons_zero, List.set_cons_succ, List.getElem_toArray, List.getElem_cons_zero, List.getElem_cons_succ]
        refine wpAnyH_take (i := 8) (v := ?_) rfl (by kernel_rfl) (by kernel_rfl) (by kernel_rfl) (fun _ _ _ h => h) (Or.inl ⟨by rfl, ?_⟩) hHeld ?_
        rotate_left
        · (intro v9 hS9; obtain ⟨c0, c1, c2, c3, f1, f2⟩ := hS9; go_simp; try with_reducible rfl)
        try simp only [Act.put, List.setIfInBounds_toArray, List.set_cons_zero, List.set_cons_succ, List.getElem_toArray, List.getElem_cons_zero, List.getElem_cons_succ]
        refine wpAnyH_take (i := 9) (v := ?_) rfl (by kernel_rfl) (by kernel_rfl) (by kernel_rfl) (fun _ _ _ h => h) (Or.inl ⟨by rfl, ?_⟩) hHeld ?_
        rotate_left
        · (intro v9 hS9; go_simp; try with_reducible rfl)
        try simp only [Act.put, List.setIfInBounds_toArray, List.set_cons_zero, List.set_cons_succ, List.getElem_toArray, List.getElem_cons_zero, List.getElem_cons_succ]
        refine wpAnyH_ready (rs := [10]) (by kernel_rfl) (by simp) ?_
        refine AllReadyH.cons rfl (fun K hK => ?_) AllReadyH.nil
        go_simp
        go_wp2_with (go_at_call 101; rw [HX.out]; refine (iShort d _ HTD.out HA.out).mono ?_; rintro e wx ⟨⟨x, rfl, hxk⟩, hbx⟩; have HRX : Hid (RB wx b S k v bm) := RB.below hHeld hbx; have HKX : Hid (Kb b w wx) := HKD.out.trans (kb_of_below hbx); have HXK : Hid (∀ k', numL d = some k' → x = (k' : Int)) := hxk; clear hbx hxk; rw [HNS.out])
        refine hK.out _ _ HRX.out (fun hNext => ?_)
        clear hK K hHeld
        have hHeld := hNext
        clear hNext
        refine wpAnyH_take (i := 11) (v := ?_) rfl (by kernel_rfl) (by kernel_rfl) (by kernel_rfl) (fun _ _ _ h => h) (Or.inl ⟨by rfl, ?_⟩) hHeld ?_
        rotate_left
        · (intro v9 hS9; go_simp; try with_reducible rfl)
        try simp only [Act.put, List.setIfInBounds_toArray, List.set_cons_zero, List.set_cons_succ, List.getElem_toArray, List.getElem_cons_zero, List.getElem_cons_succ]
        refine wpAnyH_take (i := 12) (v := ?_) rfl (by kernel_rfl) (by kernel_rfl) (by kernel_rfl) (fun _ _ _ h => h) (Or.inl ⟨by rfl, ?_⟩) hHeld ?_
        rotate_left
        · (intro v9 hS9; go_simp; try with_reducible rfl)
        try simp only [Act.put, List.setIfInBounds_toArray, List.set_cons_zero, List.set_cons_succ, List.getElem_toArray, List.getElem_cons_zero, List.getElem_cons_succ]
        refine wpAnyH_take (i := 13) (v := ?_) rfl (by kernel_rfl) (by kernel_rfl) (by kernel_rfl) (fun _ _ _ h => h) (Or.inl ⟨by rfl, ?_⟩) hHeld ?_
        rotate_left
        · (intro v9 hS9; go_simp; try with_reducible rfl)
        try simp only [Act.put, List.setIfInBounds_toArray, List.set_cons_zero, List.set_cons_succ, List.getElem_toArray, List.getElem_cons_zero, List.getElem_cons_succ]
        refine wpAnyH_take (i := 14) (v := ?_) rfl (by kernel_rfl) (by kernel_rfl) (by kernel_rfl) (fun _ _ _ h => h) (Or.inl ⟨by rfl, ?_⟩) hHeld ?_
        rotate_left
        · (intro v9 hS9; go_simp; try with_reducible rfl)
        try simp only [Act.put, List.setIfInBounds_toArray, List.set_cons_zero, List.set_cons_succ, List.getElem_toArray, List.getElem_cons_zero, List.getElem_cons_succ]
        refine wpAnyH_take (i := 15) (v := ?_) rfl (by kernel_rfl) (by kernel_rfl) (by kernel_rfl) (fun _ _ _ h => h) (Or.inl ⟨by rfl, ?_⟩) hHeld ?_
        rotate_left
        · (intro v9 hS9; go_simp; try with_reducible rfl)
        try simp only [Act.put, List.setIfInBounds_toArray, List.set_cons_zero, List.set_cons_succ, List.getElem_toArray, List.getElem_cons_zero, List.getElem_cons_succ]
        refine wpAnyH_done (by kernel_rfl) ?_ _
        all_goals
          go_wp2_with fail
          refine (iFail _ _ _).mono ?_
          rintro e w' ⟨rfl, rfl⟩
          go_wp2
          exact ⟨rfl, Out.error HP.out rfl, HKX.out⟩
      | some y =>
        have HNS : Hid ((numL d).isSome = true) := by show _ = _; rw [hn]; rfl
        have HP : Hid (pNum (tl S) st p = .ok (y, k)) := by show _ = _; unfold pNum; rw [HDE.out, hn]; simp only; rw [HDL.out]
        have HNY : Hid (numL d = some y) := hn
        clear hn
        refine wp_region_held_drew (S := fun w' => RB w' b S k v bm) (by kernel_rfl) (HRD.out) (fun hHeld => ?_)
        refine wpAnyH_take (i := 0) (v := ?_) rfl (by kernel_rfl) (by kernel_rfl) (by kernel_rfl) (fun _ _ _ h => h) (Or.inl ⟨by rfl, ?_⟩) hHeld ?_
        rotate_left
        · (intro v9 hS9; go_simp; try with_reducible rfl)
        try simp only [Act.put, List.setIfInBounds_toArray, List.set_cons_zero, List.set_cons_succ, List.getElem_toArray, List.getElem_cons_zero]
        refine wpAnyH_take (i := 1) (v := ?_) rfl (by kernel_rfl) (by kernel_rfl) (by kernel_rfl) (fun _ _ _ h => h) (Or.inl ⟨by rfl, ?_⟩) hHeld ?_
        rotate_left
        · (intro v9 hS9; go_simp; try with_reducible rfl)
        try simp only [Act.put, List.setIfInBounds_toArray, List.set_cons_zero, List.set_cons_succ, List.getElem_toArray, List.getElem_cons_zero, List.getElem_cons_succ]
        refine wpAnyH_take (i := 2) (v := ?_) rfl (by kernel_rfl) (by kernel_rfl) (by kernel_rfl) (fun _ _ _ h => h) (Or.inl ⟨by rfl, ?_⟩) hHeld ?_
        rotate_left
        · (intro v9 hS9; go_simp; try with_reducible rfl)
        try simp only [Act.put, List.setIfInBounds_toArray, List.set_cons_zero, List.set_cons_succ, List.getElem_toArray, List.getElem_cons_zero, List.getElem_cons_succ]
        refine wpAnyH_take (i := 3) (v := ?_) rfl (by kernel_rfl) (by kernel_rfl) (by kernel_rfl) (fun _ _ _ h => h) (Or.inl ⟨by rfl, ?_⟩) hHeld ?_
        rotate_left
        · (intro v9 hS9; obtain ⟨c0, c1, c2, c3, f1, f2⟩ := hS9; go_simp; try with_reducible rfl)
        try simp only [Act.put, List.setIfInBounds_toArray, List.set_cons_zero, List.set_cons_succ, List.getElem_toArray, List.getElem_cons_zero, List.getElem_cons_succ]
        refine wpAnyH_take (i := 4) (v := ?_) rfl (by kernel_rfl) (by kernel_rfl) (by kernel_rfl) (fun _ _ _ h => h) (Or.inl ⟨by rfl, ?_⟩) hHeld ?_
        rotate_left
        · (intro v9 hS9; go_simp; try with_reducible rfl)
        try simp only [Act.put, List.setIfInBounds_toArray, List.set_cons_zero, List.set_cons_succ, List.getElem_toArray, List.getElem_cons_zero, List.getElem_cons_succ]
        refine wpAnyH_take (i := 5) (v := ?_) rfl (by kernel_rfl) (by kernel_rfl) (by kernel_rfl) (fun _ _ _ h => h) (Or.inl ⟨by rfl, ?_⟩) hHeld ?_
        rotate_left
        · (intro v9 hS9; go_simp; try with_reducible rfl)
        try simp only [Act.put, List.setIfInBounds_toArray, List.set_cons_zero, List.set_cons_succ, List.getElem_toArray, List.getElem_cons_zero, List.getElem_cons_succ]
        refine wpAnyH_take (i := 6) (v := ?_) rfl (by kernel_rfl) (by kernel_rfl) (by kernel_rfl) (fun _ _ _ h => h) (Or.inl ⟨by rfl, ?_⟩) hHeld ?_
        rotate_left
        · (intro v9 hS9; go_simp; try with_reducible rfl)
        try simp only [Act.put, List.setIfInBounds_toArray, List.set_cons_zero, List.set_cons_succ, List.getElem_toArray, List.getElem_cons_zero, List.getElem_cons_succ]
        refine wpAnyH_take (i := 7) (v := ?_) rfl (by kernel_rfl) (by kernel_rfl) (by kernel_rfl) (fun _ _ _ h => h) (Or.inl ⟨by rfl, ?_⟩) hHeld ?_
        rotate_left
        · (intro v9 hS9; go_simp; try with_reducible rfl)
        try simp only [Act.put, List.setIfInBounds_toArray, List.set_cons_zero, List.set_cons_succ, List.getElem_toArray, List.getElem_cons_zero, List.getElem_cons_succ]
        refine wpAnyH_take (i := 8) (v := ?_) rfl (by kernel_rfl) (by kernel_rfl) (by kernel_rfl) (fun _ _ _ h => h) (Or.inl ⟨by rfl, ?_⟩) hHeld ?_
        rotate_left
        · (intro v9 hS9; obtain ⟨c0, c1, c2, c3, f1, f2⟩ := hS9; go_simp; try with_reducible rfl)
        try simp only [Act.put, List.setIfInBounds_toArray, List.set_cons_zero, List.set_cons_succ, List.getElem_toArray, List.getElem_cons_zero, List.getElem_cons_succ]
        refine wpAnyH_take (i := 9) (v := ?_) rfl (by kernel_rfl) (by kernel_rfl) (by kernel_rfl) (fun _ _ _ h => h) (Or.inl ⟨by rfl, ?_⟩) hHeld ?_
        rotate_left
        · (intro v9 hS9; go_simp; try with_reducible rfl)
        try simp only [Act.put, List.setIfInBounds_toArray, List.set_cons_zero, List.set_cons_succ, List.getElem_toArray, List.getElem_cons_zero, List.getElem_cons_succ]
        refine wpAnyH_ready (rs := [10]) (by kernel_rfl) (by simp) ?_
        refine AllReadyH.cons rfl (fun K hK => ?_) AllReadyH.nil
        go_simp
        go_wp2_with (go_at_call 101; rw [HX.out]; refine (iShort d _ HTD.out HA.out).mono ?_; rintro e wx ⟨⟨x, rfl, hxk⟩, hbx⟩; have HRX : Hid (RB wx b S k v bm) := RB.below hHeld hbx; have HKX : Hid (Kb b w wx) := HKD.out.trans (kb_of_below hbx); have HXK : Hid (∀ k', numL d = some k' → x = (k' : Int)) := hxk; clear hbx hxk; rw [HNS.out])
        refine hK.out _ _ HRX.out (fun hNext => ?_)
        clear hK K hHeld
        have hHeld := hNext
        clear hNext
        refine wpAnyH_take (i := 11) (v := ?_) rfl (by kernel_rfl) (by kernel_rfl) (by kernel_rfl) (fun _ _ _ h => h) (Or.inl ⟨by rfl, ?_⟩) hHeld ?_
        rotate_left
        · (intro v9 hS9; go_simp; try with_reducible rfl)
        try simp only [Act.put, List.setIfInBounds_toArray, List.set_cons_zero, List.set_cons_succ, List.getElem_toArray, List.getElem_cons_zero, List.getElem_cons_succ]
        refine wpAnyH_take (i := 12) (v := ?_) rfl (by kernel_rfl) (by kernel_rfl) (by kernel_rfl) (fun _ _ _ h => h) (Or.inl ⟨by rfl, ?_⟩) hHeld ?_
        rotate_left
        · (intro v9 hS9; go_simp; try with_reducible rfl)
        try simp only [Act.put, List.setIfInBounds_toArray, List.set_cons_zero, List.set_cons_succ, List.getElem_toArray, List.getElem_cons_zero, List.getElem_cons_succ]
        refine wpAnyH_take (i := 13) (v := ?_) rfl (by kernel_rfl) (by kernel_rfl) (by kernel_rfl) (fun _ _ _ h => h) (Or.inl ⟨by rfl, ?_⟩) hHeld ?_
        rotate_left
        · (intro v9 hS9; go_simp; try with_reducible rfl)
        try simp only [Act.put, List.setIfInBounds_toArray, List.set_cons_zero, List.set_cons_succ, List.getElem_toArray, List.getElem_cons_zero, List.getElem_cons_succ]
        refine wpAnyH_take (i := 14) (v := ?_) rfl (by kernel_rfl) (by kernel_rfl) (by kernel_rfl) (fun _ _ _ h => h) (Or.inl ⟨by rfl, ?_⟩) hHeld ?_
        rotate_left
        · (intro v9 hS9; go_simp; try with_reducible rfl)
        try simp only [Act.put, List.setIfInBounds_toArray, List.set_cons_zero, List.set_cons_succ, List.getElem_toArray, List.getElem_cons_zero, List.getElem_cons_succ]
        refine wpAnyH_take (i := 15) (v := ?_) rfl (by kernel_rfl) (by kernel_rfl) (by kernel_rfl) (fun _ _ _ h => h) (Or.inl ⟨by rfl, ?_⟩) hHeld ?_
        rotate_left
        · (intro v9 hS9; go_simp; try with_reducible rfl)
        try simp only [Act.put, List.setIfInBounds_toArray, List.set_cons_zero, List.set_cons_succ, List.getElem_toArray, List.getElem_cons_zero, List.getElem_cons_succ]
        refine wpAnyH_done (by kernel_rfl) ?_ _
        all_goals
          go_wp2
          go_ret
          exact ⟨Out.ok HP.out ⟨by rw [HXK.out y HNY.out]; rfl, HRX.out, hk⟩, HKX.out⟩
    · have hlt : k < S.size := by
        rcases Nat.lt_or_ge k S.size with e | e
        · exact e
        · rw [nx_off e] at hd; cases hd
      have HD : Hid (isDig S[k] = true) := by show _ = _; rw [← nx_in hlt]; exact hd
      have d1 := H1.out.c1
      have g1 := H1.out.f1
      have hkw : IntKind.i64.wrap ((k : Int) + 1) = (k : Int) + 1 := by rw [IntKind.wrap_i64]; omega
      go_wp2
      go_roundw
      case rel =>
        refine ⟨k + 1, by omega, by omega, H1.out.move _ _ (by simp), Ss3.kept_set HK1.out _, ?_⟩
        rw [drop_take_more hpk hlt]
        intro c hc
        rcases List.mem_append.1 hc with e | e
        · exact HA.out c e
        · have : c = S[k] := by simpa using e
          rw [this]; exact HD.out
      case measure => rw [set_same (w := w2) (u := .int .i64 k) d1, c1]; simp [intOf]; omega

end Go.Proofs.YtmghkeahlhlclaaGreatDoor.Pr2

/- The walks of the program's reader: pairs of numbers, and what stands between an operator and its parts. -/
namespace Go.Proofs.YtmghkeahlhlclaaGreatDoor.Pr3
open Go.RowKit
open Nd0 Nd3 Tm0 Tx0 Tx1 Ss0 Ss1 Tb0 Tb1 Px0 Pr1 Pr2
open Ss5 (Kb)
set_option linter.unusedVariables false

set_option maxHeartbeats 2000000 in
theorem iPairR (w : World) (b : Nat) (S : ByteArray) (p : Nat) (v : Value) (bm : Nat) (c : UInt8) (st : Nat) (hg : ∀ w', Kb b w w' → TabR w') (h : RB w b S p v bm) (hs : S.size ≤ 100000) (hp : p ≤ S.size) :
    Calls Tryz.prog 52 #[.pointer (some ⟨b, 0, none⟩), .int .u8 (c.toNat : Int), .int .i64 st] w fun e w' => Out (pPair (tl S) c st p) (fun y => e = .returned (.tuple #[.int .i64 (y.1.1 : Int), .int .i64 (y.1.2 : Int)]) ∧ RB w' b S y.2 v bm ∧ y.2 ≤ S.size) (fun x => e = .panicked [fl x]) ∧ Kb b w w' := by
  have H : Hid (RB w b S p v bm) := h
  have HG : Hid (∀ w', Kb b w w' → TabR w') := hg
  clear h hg
  go_enter Tryz.func52, Tryz.ntmps52
  go_wp2_with fail
  refine (iNeed _ b S p v bm c st H.out hs hp).mono ?_
  rintro e w1 ⟨ho1, hk1⟩
  have HK1 : Hid (Kb b w w1) := hk1
  clear hk1
  cases h1 : pNeed (tl S) c st p with
  | error x =>
    obtain rfl := ho1.2 x h1
    have HP : Hid (pPair (tl S) c st p = .error x) := by show _ = _; unfold pPair; rw [h1]; rfl
    clear ho1 h1
    go_wp2
    exact ⟨rfl, Out.error HP.out rfl, HK1.out⟩
  | ok p1 =>
    obtain ⟨rfl, hr1, hp1⟩ := ho1.1 p1 h1
    have H1 : Hid (RB w1 b S p1 v bm) := hr1
    have HP1 : Hid (pNeed (tl S) c st p = .ok p1) := h1
    clear ho1 h1 hr1
    go_wp2_with fail
    refine (iNumber _ b S p1 v bm st (HG.out _ HK1.out) (fun w' k => HG.out _ (HK1.out.trans k)) H1.out hs hp1).mono ?_
    rintro e w2 ⟨ho2, hk2⟩
    have HK2 : Hid (Kb b w w2) := HK1.out.trans hk2
    clear hk2
    cases h2 : pNum (tl S) st p1 with
    | error x =>
      obtain rfl := ho2.2 x h2
      have HP : Hid (pPair (tl S) c st p = .error x) := by show _ = _; unfold pPair; rw [HP1.out]; simp only [Except.bind]; rw [h2]
      clear ho2 h2
      go_wp2
      exact ⟨rfl, Out.error HP.out rfl, HK2.out⟩
    | ok y1 =>
      obtain ⟨rfl, hr2, hp2⟩ := ho2.1 y1 h2
      have H2 : Hid (RB w2 b S y1.2 v bm) := hr2
      have HP2 : Hid (pNum (tl S) st p1 = .ok y1) := h2
      clear ho2 h2 hr2
      go_wp2_with fail
      refine (iNeed _ b S y1.2 v bm 58 st H2.out hs hp2).mono ?_
      rintro e w3 ⟨ho3, hk3⟩
      have HK3 : Hid (Kb b w w3) := HK2.out.trans hk3
      clear hk3
      cases h3 : pNeed (tl S) 58 st y1.2 with
      | error x =>
        obtain rfl := ho3.2 x h3
        have HP : Hid (pPair (tl S) c st p = .error x) := by show _ = _; unfold pPair; rw [HP1.out]; simp only [Except.bind]; rw [HP2.out]; simp only; rw [h3]
        clear ho3 h3
        go_wp2
        exact ⟨rfl, Out.error HP.out rfl, HK3.out⟩
      | ok p3 =>
        obtain ⟨rfl, hr3, hp3⟩ := ho3.1 p3 h3
        have H3 : Hid (RB w3 b S p3 v bm) := hr3
        have HP3 : Hid (pNeed (tl S) 58 st y1.2 = .ok p3) := h3
        clear ho3 h3 hr3
        go_wp2_with fail
        refine (iNumber _ b S p3 v bm st (HG.out _ HK3.out) (fun w' k => HG.out _ (HK3.out.trans k)) H3.out hs hp3).mono ?_
        rintro e w4 ⟨ho4, hk4⟩
        have HK4 : Hid (Kb b w w4) := HK3.out.trans hk4
        clear hk4
        cases h4 : pNum (tl S) st p3 with
        | error x =>
          obtain rfl := ho4.2 x h4
          have HP : Hid (pPair (tl S) c st p = .error x) := by show _ = _; unfold pPair; rw [HP1.out]; simp only [Except.bind]; rw [HP2.out]; simp only; rw [HP3.out]; simp only; rw [h4]
          clear ho4 h4
          go_wp2
          exact ⟨rfl, Out.error HP.out rfl, HK4.out⟩
        | ok y2 =>
          obtain ⟨rfl, hr4, hp4⟩ := ho4.1 y2 h4
          have H4 : Hid (RB w4 b S y2.2 v bm) := hr4
          have HP4 : Hid (pNum (tl S) st p3 = .ok y2) := h4
          clear ho4 h4 hr4
          go_wp2_with fail
          refine (iEnd _ b S y2.2 v bm st H4.out hs hp4).mono ?_
          rintro e w5 ⟨ho5, m, rfl⟩
          cases h5 : pEnd (tl S) st y2.2 with
          | error x =>
            obtain rfl := ho5.2 x h5
            have HP : Hid (pPair (tl S) c st p = .error x) := by show _ = _; unfold pPair; rw [HP1.out]; simp only [Except.bind]; rw [HP2.out]; simp only; rw [HP3.out]; simp only; rw [HP4.out]; simp only; rw [h5]
            clear ho5 h5
            go_wp2
            exact ⟨rfl, Out.error HP.out rfl, HK4.out.drewN _⟩
          | ok q =>
            obtain ⟨rfl, rfl⟩ := ho5.1 q h5
            have HP : Hid (pPair (tl S) c st p = .ok ((y1.1, y2.1), y2.2)) := by show _ = _; unfold pPair; rw [HP1.out]; simp only [Except.bind]; rw [HP2.out]; simp only; rw [HP3.out]; simp only; rw [HP4.out]; simp only; rw [h5]
            clear ho5 h5
            go_wp2
            go_ret2
            exact ⟨Out.ok HP.out ⟨rfl, H4.out.drewN _, hp4⟩, HK4.out.drewN _⟩

end Go.Proofs.YtmghkeahlhlclaaGreatDoor.Pr3

/- The walk of the program's reader: what stands between an operator and its parts. -/
namespace Go.Proofs.YtmghkeahlhlclaaGreatDoor.Pr5
open Go.RowKit
open Nd0 Nd3 Tm0 Tx0 Tx1 Ss0 Ss1 Tb0 Tb1 Px0 Pr1 Pr2 Pr3
open Ss5 (Kb)
set_option linter.unusedVariables false

/-- A node in block b that may be written. -/
structure NW (w : World) (b : Nat) (n : Nd) : Prop where
  c0 : w.cell? ⟨b, 0, none⟩ = some (.int .i64 n.op)
  c1 : w.cell? ⟨b, 1, none⟩ = some (.int .i64 n.w)
  c2 : w.cell? ⟨b, 2, none⟩ = some (.int .i64 n.k)
  c3 : w.cell? ⟨b, 3, none⟩ = some (.int .i64 n.a)
  c4 : w.cell? ⟨b, 4, none⟩ = some (.int .i64 n.b)
  c5 : w.cell? ⟨b, 5, none⟩ = some (.int .i64 n.c)
  f0 : w.frozen? ⟨b, 0, none⟩ = false
  f1 : w.frozen? ⟨b, 1, none⟩ = false
  f2 : w.frozen? ⟨b, 2, none⟩ = false
  f3 : w.frozen? ⟨b, 3, none⟩ = false
  f4 : w.frozen? ⟨b, 4, none⟩ = false
  f5 : w.frozen? ⟨b, 5, none⟩ = false
theorem NW.lt {w : World} {b : Nat} {n : Nd} (h : NW w b n) : b < w.heap.size := lt_of_cell (p := ⟨b, 0, none⟩) h.c0
theorem NW.new (w : World) (n : Nd) (T g : Nat) (hg : g = w.heap.size) : NW (w.alloc (.cells #[.int .i64 n.op, .int .i64 n.w, .int .i64 n.k, .int .i64 n.a, .int .i64 n.b, .int .i64 n.c] T)) g n := by
  subst hg
  refine ⟨?_, ?_, ?_, ?_, ?_, ?_, ?_, ?_, ?_, ?_, ?_, ?_⟩
  all_goals first
    | (rw [World.cell?_alloc_new]; rfl)
    | simp
theorem NW.kept {w w' : World} {b : Nat} {n : Nd} (h : NW w b n) {D : Nat → Prop} (k : Kept D w w') (hd : ¬ D b) : NW w' b n :=
  ⟨by rw [k.cell (p := ⟨b, 0, none⟩) h.lt hd]; exact h.c0, by rw [k.cell (p := ⟨b, 1, none⟩) h.lt hd]; exact h.c1, by rw [k.cell (p := ⟨b, 2, none⟩) h.lt hd]; exact h.c2, by rw [k.cell (p := ⟨b, 3, none⟩) h.lt hd]; exact h.c3, by rw [k.cell (p := ⟨b, 4, none⟩) h.lt hd]; exact h.c4, by rw [k.cell (p := ⟨b, 5, none⟩) h.lt hd]; exact h.c5,
   by rw [k.frozen (p := ⟨b, 0, none⟩) h.lt hd]; exact h.f0, by rw [k.frozen (p := ⟨b, 1, none⟩) h.lt hd]; exact h.f1, by rw [k.frozen (p := ⟨b, 2, none⟩) h.lt hd]; exact h.f2, by rw [k.frozen (p := ⟨b, 3, none⟩) h.lt hd]; exact h.f3, by rw [k.frozen (p := ⟨b, 4, none⟩) h.lt hd]; exact h.f4, by rw [k.frozen (p := ⟨b, 5, none⟩) h.lt hd]; exact h.f5⟩
theorem NW.setK {w : World} {b : Nat} {n : Nd} (h : NW w b n) (x : Int) : NW (w.setCell ⟨b, 2, none⟩ (.int .i64 x)) b ⟨n.op, n.w, x, n.a, n.b, n.c⟩ :=
  ⟨by rw [set_other (by simp)]; exact h.c0, by rw [set_other (by simp)]; exact h.c1, set_same h.c2, by rw [set_other (by simp)]; exact h.c3, by rw [set_other (by simp)]; exact h.c4, by rw [set_other (by simp)]; exact h.c5, by simpa using h.f0, by simpa using h.f1, by simpa using h.f2, by simpa using h.f3, by simpa using h.f4, by simpa using h.f5⟩
theorem NW.setW {w : World} {b : Nat} {n : Nd} (h : NW w b n) (x : Int) : NW (w.setCell ⟨b, 1, none⟩ (.int .i64 x)) b ⟨n.op, x, n.k, n.a, n.b, n.c⟩ :=
  ⟨by rw [set_other (by simp)]; exact h.c0, set_same h.c1, by rw [set_other (by simp)]; exact h.c2, by rw [set_other (by simp)]; exact h.c3, by rw [set_other (by simp)]; exact h.c4, by rw [set_other (by simp)]; exact h.c5, by simpa using h.f0, by simpa using h.f1, by simpa using h.f2, by simpa using h.f3, by simpa using h.f4, by simpa using h.f5⟩
theorem NW.setB {w : World} {b : Nat} {n : Nd} (h : NW w b n) (x : Int) : NW (w.setCell ⟨b, 4, none⟩ (.int .i64 x)) b ⟨n.op, n.w, n.k, n.a, x, n.c⟩ :=
  ⟨by rw [set_other (by simp)]; exact h.c0, by rw [set_other (by simp)]; exact h.c1, by rw [set_other (by simp)]; exact h.c2, by rw [set_other (by simp)]; exact h.c3, set_same h.c4, by rw [set_other (by simp)]; exact h.c5, by simpa using h.f0, by simpa using h.f1, by simpa using h.f2, by simpa using h.f3, by simpa using h.f4, by simpa using h.f5⟩
theorem NW.setA {w : World} {b : Nat} {n : Nd} (h : NW w b n) (x : Int) : NW (w.setCell ⟨b, 3, none⟩ (.int .i64 x)) b ⟨n.op, n.w, n.k, x, n.b, n.c⟩ :=
  ⟨by rw [set_other (by simp)]; exact h.c0, by rw [set_other (by simp)]; exact h.c1, by rw [set_other (by simp)]; exact h.c2, set_same h.c3, by rw [set_other (by simp)]; exact h.c4, by rw [set_other (by simp)]; exact h.c5, by simpa using h.f0, by simpa using h.f1, by simpa using h.f2, by simpa using h.f3, by simpa using h.f4, by simpa using h.f5⟩
theorem NW.setC {w : World} {b : Nat} {n : Nd} (h : NW w b n) (x : Int) : NW (w.setCell ⟨b, 5, none⟩ (.int .i64 x)) b ⟨n.op, n.w, n.k, n.a, n.b, x⟩ :=
  ⟨by rw [set_other (by simp)]; exact h.c0, by rw [set_other (by simp)]; exact h.c1, by rw [set_other (by simp)]; exact h.c2, by rw [set_other (by simp)]; exact h.c3, by rw [set_other (by simp)]; exact h.c4, set_same h.c5, by simpa using h.f0, by simpa using h.f1, by simpa using h.f2, by simpa using h.f3, by simpa using h.f4, by simpa using h.f5⟩
theorem NW.setOp {w : World} {b : Nat} {n : Nd} (h : NW w b n) (x : Int) : NW (w.setCell ⟨b, 0, none⟩ (.int .i64 x)) b ⟨x, n.w, n.k, n.a, n.b, n.c⟩ :=
  ⟨set_same h.c0, by rw [set_other (by simp)]; exact h.c1, by rw [set_other (by simp)]; exact h.c2, by rw [set_other (by simp)]; exact h.c3, by rw [set_other (by simp)]; exact h.c4, by rw [set_other (by simp)]; exact h.c5, by simpa using h.f0, by simpa using h.f1, by simpa using h.f2, by simpa using h.f3, by simpa using h.f4, by simpa using h.f5⟩

theorem kb_new {b g : Nat} {w w2 w3 : World} (h : Kb b w w2) (k : Kept (fun i => i = g) w2 w3) (hg : w.heap.size ≤ g) : Kb b w w3 :=
  ⟨k.os.trans h.os, k.tape.trans h.tape, k.output.trans h.output, Nat.le_trans h.size k.size, fun i hi hn => by rw [k.block i (Nat.lt_of_lt_of_le hi h.size) (fun e => by have e' : i = g := e; omega), h.block i hi hn]⟩

set_option maxRecDepth 100000 in
set_option maxHeartbeats 4000000 in
theorem iNums (w : World) (b : Nat) (S : ByteArray) (p : Nat) (v : Value) (bm o st : Nat) (hg : ∀ w', Kb b w w' → TabR w') (h : RB w b S p v bm) (hs : S.size ≤ 100000) (hp : p ≤ S.size) :
    Calls Tryz.prog 55 #[.pointer (some ⟨b, 0, none⟩), .agg #[.int .i64 o, .int .i64 0, .int .i64 0, .int .i64 0, .int .i64 0, .int .i64 0], .int .i64 st] w fun e w' => Out (pNums (tl S) o st p) (fun y => e = .returned (.agg #[.int .i64 y.1.op, .int .i64 y.1.w, .int .i64 y.1.k, .int .i64 y.1.a, .int .i64 y.1.b, .int .i64 y.1.c]) ∧ RB w' b S y.2 v bm ∧ y.2 ≤ S.size) (fun x => e = .panicked [fl x]) ∧ Kb b w w' := by
  have H : Hid (RB w b S p v bm) := h
  have HG : Hid (∀ w', Kb b w w' → TabR w') := hg
  have hbw : b < w.heap.size := h.lt
  obtain ⟨w0, hw0⟩ : ∃ w0 : World, w0 = (w.alloc (.cells #[.int .i64 o, .int .i64 0, .int .i64 0, .int .i64 0, .int .i64 0, .int .i64 0] 48)).alloc (.cells #[.int .i64 0, .int .i64 0, .int .i64 0, .int .i64 0, .int .i64 0, .int .i64 0] 48) := ⟨_, rfl⟩
  obtain ⟨bn, hbn⟩ : ∃ bn : Nat, bn = w.heap.size := ⟨_, rfl⟩
  have HK0 : Hid (Kb b w w0) := by show Kept _ _ _; rw [hw0]; exact ((Kept.refl _ _).alloc _).alloc _
  have HN0 : Hid (NW w0 bn ⟨o, 0, 0, 0, 0, 0⟩) := by
    show NW _ _ _
    rw [hw0]
    exact (NW.new w ⟨o, 0, 0, 0, 0, 0⟩ 48 bn hbn).kept (D := fun _ => False) ((Kept.refl _ _).alloc _) (fun e => e)
  have HR0 : Hid (NW w0 (bn + 1) ⟨0, 0, 0, 0, 0, 0⟩) := by
    show NW _ _ _
    rw [hw0]
    exact NW.new _ ⟨0, 0, 0, 0, 0, 0⟩ 48 (bn + 1) (by rw [hbn]; simp)
  have H0 : Hid (RB w0 b S p v bm) := by
    show RB _ _ _ _ _ _
    rw [hw0]
    exact h.kept (D := fun _ => False) (((Kept.refl _ _).alloc _).alloc _) (fun e => e)
  have HNB : Hid (bn ≠ b ∧ bn + 1 ≠ b) := ⟨by omega, by omega⟩
  have HBN : Hid (w.heap.size ≤ bn) := by show _ ≤ _; omega
  have HW0 : Hid (w0 = (w.alloc (.cells #[.int .i64 o, .int .i64 0, .int .i64 0, .int .i64 0, .int .i64 0, .int .i64 0] 48)).alloc (.cells #[.int .i64 0, .int .i64 0, .int .i64 0, .int .i64 0, .int .i64 0, .int .i64 0] 48)) := hw0
  clear h hg hw0
  by_cases h17 : o = 17
  · have hqq : ((o : Int) == 17) = true := by simp [h17]
    have HU : Hid (pNums (tl S) o st p = (pNeed (tl S) 32 st p).bind fun p1 => (pNum (tl S) st p1).bind fun x => (pNeed (tl S) 32 st x.2).bind fun p3 => (pNum (tl S) st p3).bind fun y => .ok (⟨o, y.1, x.1, 0, 0, 0⟩, y.2)) := by show _ = _; unfold pNums; rw [if_pos h17]
    clear h17
    go_enter Tryz.func55, Tryz.ntmps55
    go_wp2_with fail
    rw [← HW0.out, ← hbn]
    clear hbn
    refine (iNeed _ b S p v bm 32 st H0.out hs hp).mono ?_
    rintro e w1 ⟨ho1, hk1⟩
    have HK1 : Hid (Kb b w w1) := HK0.out.trans hk1
    have HN1 : Hid (NW w1 bn ⟨o, 0, 0, 0, 0, 0⟩) := HN0.out.kept hk1 (fun e => HNB.out.1 e)
    have HR1 : Hid (NW w1 (bn + 1) ⟨0, 0, 0, 0, 0, 0⟩) := HR0.out.kept hk1 (fun e => HNB.out.2 e)
    clear hk1
    cases h1 : pNeed (tl S) 32 st p with
    | error x =>
      obtain rfl := ho1.2 x h1
      have HP : Hid (pNums (tl S) o st p = .error x) := by show _ = _; rw [HU.out, h1]; rfl
      clear ho1 h1
      go_wp2
      exact ⟨rfl, Out.error HP.out rfl, HK1.out⟩
    | ok p1 =>
      obtain ⟨rfl, hr1, hp1⟩ := ho1.1 p1 h1
      have H1 : Hid (RB w1 b S p1 v bm) := hr1
      have HU1 : Hid (pNums (tl S) o st p = (pNum (tl S) st p1).bind fun x => (pNeed (tl S) 32 st x.2).bind fun p3 => (pNum (tl S) st p3).bind fun y => .ok (⟨o, y.1, x.1, 0, 0, 0⟩, y.2)) := by show _ = _; rw [HU.out, h1]; rfl
      clear ho1 h1 hr1
      go_wp2_with fail
      refine (iNumber _ b S p1 v bm st (HG.out _ HK1.out) (fun w' k => HG.out _ (HK1.out.trans k)) H1.out hs hp1).mono ?_
      rintro e w2 ⟨ho2, hk2⟩
      have HK2 : Hid (Kb b w w2) := HK1.out.trans hk2
      have HN2 : Hid (NW w2 bn ⟨o, 0, 0, 0, 0, 0⟩) := HN1.out.kept hk2 (fun e => HNB.out.1 e)
      have HR2 : Hid (NW w2 (bn + 1) ⟨0, 0, 0, 0, 0, 0⟩) := HR1.out.kept hk2 (fun e => HNB.out.2 e)
      clear hk2
      cases h2 : pNum (tl S) st p1 with
      | error x =>
        obtain rfl := ho2.2 x h2
        have HP : Hid (pNums (tl S) o st p = .error x) := by show _ = _; rw [HU1.out, h2]; rfl
        clear ho2 h2
        go_wp2
        exact ⟨rfl, Out.error HP.out rfl, HK2.out⟩
      | ok y1 =>
        obtain ⟨rfl, hr2, hp2⟩ := ho2.1 y1 h2
        have HU2 : Hid (pNums (tl S) o st p = (pNeed (tl S) 32 st y1.2).bind fun p3 => (pNum (tl S) st p3).bind fun y => .ok (⟨o, y.1, y1.1, 0, 0, 0⟩, y.2)) := by show _ = _; rw [HU1.out, h2]; rfl
        have q2 := HN2.out.c2
        have g2 := HN2.out.f2
        obtain ⟨w3, hw3⟩ : ∃ w3 : World, w3 = w2.setCell ⟨bn, 2, none⟩ (.int .i64 (y1.1 : Int)) := ⟨_, rfl⟩
        have hks : Kept (fun k => k = bn) w2 w3 := by rw [hw3]; exact (Kept.refl (fun k => k = bn) _).setCell (p := ⟨bn, 2, none⟩) rfl _
        have H3 : Hid (RB w3 b S y1.2 v bm) := hr2.kept hks (fun e => HNB.out.1 e.symm)
        have HN3 : Hid (NW w3 bn ⟨o, 0, y1.1, 0, 0, 0⟩) := by show NW _ _ _; rw [hw3]; exact HN2.out.setK _
        have HR3 : Hid (NW w3 (bn + 1) ⟨0, 0, 0, 0, 0, 0⟩) := HR2.out.kept hks (fun e => by have e' : bn + 1 = bn := e; omega)
        have HK3 : Hid (Kb b w w3) := kb_new HK2.out hks HBN.out
        have HW3 : Hid (w3 = w2.setCell ⟨bn, 2, none⟩ (.int .i64 (y1.1 : Int))) := hw3
        clear ho2 h2 hr2 hks hw3
        go_wp2_with fail
        rw [← HW3.out]
        clear q2 g2
        refine (iNeed _ b S y1.2 v bm 32 st H3.out hs hp2).mono ?_
        rintro e w4 ⟨ho4, hk4⟩
        have HK4 : Hid (Kb b w w4) := HK3.out.trans hk4
        have HN4 : Hid (NW w4 bn ⟨o, 0, y1.1, 0, 0, 0⟩) := HN3.out.kept hk4 (fun e => HNB.out.1 e)
        have HR4 : Hid (NW w4 (bn + 1) ⟨0, 0, 0, 0, 0, 0⟩) := HR3.out.kept hk4 (fun e => HNB.out.2 e)
        clear hk4
        cases h4 : pNeed (tl S) 32 st y1.2 with
        | error x =>
          obtain rfl := ho4.2 x h4
          have HP : Hid (pNums (tl S) o st p = .error x) := by show _ = _; rw [HU2.out, h4]; rfl
          clear ho4 h4
          go_wp2
          exact ⟨rfl, Out.error HP.out rfl, HK4.out⟩
        | ok p4 =>
          obtain ⟨rfl, hr4, hp4⟩ := ho4.1 p4 h4
          have H4 : Hid (RB w4 b S p4 v bm) := hr4
          have HU4 : Hid (pNums (tl S) o st p = (pNum (tl S) st p4).bind fun y => .ok (⟨o, y.1, y1.1, 0, 0, 0⟩, y.2)) := by show _ = _; rw [HU2.out, h4]; rfl
          clear ho4 h4 hr4
          go_wp2_with fail
          refine (iNumber _ b S p4 v bm st (HG.out _ HK4.out) (fun w' k => HG.out _ (HK4.out.trans k)) H4.out hs hp4).mono ?_
          rintro e w5 ⟨ho5, hk5⟩
          have HK5 : Hid (Kb b w w5) := HK4.out.trans hk5
          have HN5 : Hid (NW w5 bn ⟨o, 0, y1.1, 0, 0, 0⟩) := HN4.out.kept hk5 (fun e => HNB.out.1 e)
          have HR5 : Hid (NW w5 (bn + 1) ⟨0, 0, 0, 0, 0, 0⟩) := HR4.out.kept hk5 (fun e => HNB.out.2 e)
          clear hk5
          cases h5 : pNum (tl S) st p4 with
          | error x =>
            obtain rfl := ho5.2 x h5
            have HP : Hid (pNums (tl S) o st p = .error x) := by show _ = _; rw [HU4.out, h5]; rfl
            clear ho5 h5
            go_wp2
            exact ⟨rfl, Out.error HP.out rfl, HK5.out⟩
          | ok y5 =>
            obtain ⟨rfl, hr5, hpz⟩ := ho5.1 y5 h5
            have HP : Hid (pNums (tl S) o st p = .ok (⟨o, y5.1, y1.1, 0, 0, 0⟩, y5.2)) := by show _ = _; rw [HU4.out, h5]; rfl
            have q1 := HN5.out.c1
            have g1 := HN5.out.f1
            obtain ⟨w6, hw6⟩ : ∃ w6 : World, w6 = w5.setCell ⟨bn, 1, none⟩ (.int .i64 (y5.1 : Int)) := ⟨_, rfl⟩
            have hks : Kept (fun k => k = bn) w5 w6 := by rw [hw6]; exact (Kept.refl (fun k => k = bn) _).setCell (p := ⟨bn, 1, none⟩) rfl _
            have H6 : Hid (RB w6 b S y5.2 v bm) := hr5.kept hks (fun e => HNB.out.1 e.symm)
            have HN6 : Hid (NW w6 bn ⟨o, y5.1, y1.1, 0, 0, 0⟩) := by show NW _ _ _; rw [hw6]; exact HN5.out.setW _
            have HR6 : Hid (NW w6 (bn + 1) ⟨0, 0, 0, 0, 0, 0⟩) := HR5.out.kept hks (fun e => by have e' : bn + 1 = bn := e; omega)
            have HK6 : Hid (Kb b w w6) := kb_new HK5.out hks HBN.out
            have HW6 : Hid (w6 = w5.setCell ⟨bn, 1, none⟩ (.int .i64 (y5.1 : Int))) := hw6
            clear ho5 h5 hr5 hks hw6
            go_upto_region 11 with fail
            rw [← HW6.out]
            clear q1 g1
            have ⟨e0, e1, e2, e3, e4, e5, _, _, _, _, _, _⟩ := HN6.out
            have ⟨r0, r1, r2, r3, r4, r5, g0, g1, g2, g3, g4, g5⟩ := HR6.out
            obtain ⟨wf, hwf⟩ : ∃ wf : World, wf = setNode w6 (bn + 1) 0 ⟨(o : Int), (y5.1 : Int), (y1.1 : Int), 0, 0, 0⟩ := ⟨_, rfl⟩
            have HNF : Hid (NodeAt wf (bn + 1) 0 ⟨(o : Int), (y5.1 : Int), (y1.1 : Int), 0, 0, 0⟩) := by
              show NodeAt _ _ _ _
              rw [hwf]; exact setNode_same (v := ⟨0, 0, 0, 0, 0, 0⟩) ⟨r0, r1, r2, r3, r4, r5⟩
            have HKF : Hid (Kept (fun k => k = bn + 1) w6 wf) := by
              show Kept _ _ _
              rw [hwf]; exact setNode_keptS rfl (Kept.refl _ _)
            have HWF : Hid (wf = setNode w6 (bn + 1) 0 ⟨(o : Int), (y5.1 : Int), (y1.1 : Int), 0, 0, 0⟩) := hwf
            clear hwf
            go_wp2
            have hWF := HWF.out
            simp only [setNode, Nat.zero_add] at hWF
            rw [← hWF]
            have j0 := HNF.out.c0
            have j1 := HNF.out.c1
            have j2 := HNF.out.c2
            have j3 := HNF.out.c3
            have j4 := HNF.out.c4
            have j5 := HNF.out.c5
            simp only [Nat.zero_add] at j1 j2 j3 j4 j5
            refine bodyPost_ret (v := .agg #[.int .i64 (⟨(o : Int), (y5.1 : Int), (y1.1 : Int), 0, 0, 0⟩ : Nd).op, .int .i64 (⟨(o : Int), (y5.1 : Int), (y1.1 : Int), 0, 0, 0⟩ : Nd).w, .int .i64 (⟨(o : Int), (y5.1 : Int), (y1.1 : Int), 0, 0, 0⟩ : Nd).k, .int .i64 (⟨(o : Int), (y5.1 : Int), (y1.1 : Int), 0, 0, 0⟩ : Nd).a, .int .i64 (⟨(o : Int), (y5.1 : Int), (y1.1 : Int), 0, 0, 0⟩ : Nd).b, .int .i64 (⟨(o : Int), (y5.1 : Int), (y1.1 : Int), 0, 0, 0⟩ : Nd).c]) (by simp [results, Tryz.results55, go_sem, j0, j1, j2, j3, j4, j5]) rfl ⟨Out.ok HP.out ⟨rfl, H6.out.kept HKF.out (fun e => HNB.out.2 e.symm), hpz⟩, kb_new HK6.out HKF.out (by have := HBN.out; omega)⟩
  by_cases h19 : o = 19
  · have hqq : ((o : Int) == 19) = true := by simp [h19]
    have hq17 : ((o : Int) == 17) = false := by rw [beq_eq_false_iff_ne]; omega
    have HU : Hid (pNums (tl S) o st p = (pNeed (tl S) 32 st p).bind fun p1 => (pPair (tl S) 118 st p1).bind fun x => .ok (⟨o, 0, x.1.1, 0, x.1.2, 0⟩, x.2)) := by show _ = _; unfold pNums; rw [if_neg h17, if_pos (by omega)]
    clear h17 h19
    go_enter Tryz.func55, Tryz.ntmps55
    go_wp2_with fail
    rw [← HW0.out, ← hbn]
    clear hbn
    refine (iNeed _ b S p v bm 32 st H0.out hs hp).mono ?_
    rintro e w1 ⟨ho1, hk1⟩
    have HK1 : Hid (Kb b w w1) := HK0.out.trans hk1
    have HN1 : Hid (NW w1 bn ⟨o, 0, 0, 0, 0, 0⟩) := HN0.out.kept hk1 (fun e => HNB.out.1 e)
    have HR1 : Hid (NW w1 (bn + 1) ⟨0, 0, 0, 0, 0, 0⟩) := HR0.out.kept hk1 (fun e => HNB.out.2 e)
    clear hk1
    cases h1 : pNeed (tl S) 32 st p with
    | error x =>
      obtain rfl := ho1.2 x h1
      have HP : Hid (pNums (tl S) o st p = .error x) := by show _ = _; rw [HU.out, h1]; rfl
      clear ho1 h1
      go_wp2
      exact ⟨rfl, Out.error HP.out rfl, HK1.out⟩
    | ok p1 =>
      obtain ⟨rfl, hr1, hp1⟩ := ho1.1 p1 h1
      have H1 : Hid (RB w1 b S p1 v bm) := hr1
      have HU1 : Hid (pNums (tl S) o st p = (pPair (tl S) 118 st p1).bind fun x => .ok (⟨o, 0, x.1.1, 0, x.1.2, 0⟩, x.2)) := by show _ = _; rw [HU.out, h1]; rfl
      clear ho1 h1 hr1
      go_wp2_with fail
      refine (iPairR _ b S p1 v bm 118 st (fun w' k => HG.out _ (HK1.out.trans k)) H1.out hs hp1).mono ?_
      rintro e w2 ⟨ho2, hk2⟩
      have HK2 : Hid (Kb b w w2) := HK1.out.trans hk2
      have HN2 : Hid (NW w2 bn ⟨o, 0, 0, 0, 0, 0⟩) := HN1.out.kept hk2 (fun e => HNB.out.1 e)
      have HR2 : Hid (NW w2 (bn + 1) ⟨0, 0, 0, 0, 0, 0⟩) := HR1.out.kept hk2 (fun e => HNB.out.2 e)
      clear hk2
      cases h2 : pPair (tl S) 118 st p1 with
      | error x =>
        obtain rfl := ho2.2 x h2
        have HP : Hid (pNums (tl S) o st p = .error x) := by show _ = _; rw [HU1.out, h2]; rfl
        clear ho2 h2
        go_wp2
        exact ⟨rfl, Out.error HP.out rfl, HK2.out⟩
      | ok z =>
        obtain ⟨rfl, hr2, hpz⟩ := ho2.1 z h2
        have HP : Hid (pNums (tl S) o st p = .ok (⟨o, 0, z.1.1, 0, z.1.2, 0⟩, z.2)) := by show _ = _; rw [HU1.out, h2]; rfl
        have q2 := HN2.out.c2
        have q4 := HN2.out.c4
        have g2 := HN2.out.f2
        have g4 := HN2.out.f4
        obtain ⟨w6, hw6⟩ : ∃ w6 : World, w6 = (w2.setCell ⟨bn, 2, none⟩ (.int .i64 (z.1.1 : Int))).setCell ⟨bn, 4, none⟩ (.int .i64 (z.1.2 : Int)) := ⟨_, rfl⟩
        have hks : Kept (fun k => k = bn) w2 w6 := by rw [hw6]; exact ((Kept.refl (fun k => k = bn) _).setCell (p := ⟨bn, 2, none⟩) rfl _).setCell (p := ⟨bn, 4, none⟩) rfl _
        have H6 : Hid (RB w6 b S z.2 v bm) := hr2.kept hks (fun e => HNB.out.1 e.symm)
        have HN6 : Hid (NW w6 bn ⟨o, 0, z.1.1, 0, z.1.2, 0⟩) := by show NW _ _ _; rw [hw6]; exact (HN2.out.setK _).setB _
        have HR6 : Hid (NW w6 (bn + 1) ⟨0, 0, 0, 0, 0, 0⟩) := HR2.out.kept hks (fun e => by have e' : bn + 1 = bn := e; omega)
        have HK6 : Hid (Kb b w w6) := kb_new HK2.out hks HBN.out
        have HW6 : Hid (w6 = (w2.setCell ⟨bn, 2, none⟩ (.int .i64 (z.1.1 : Int))).setCell ⟨bn, 4, none⟩ (.int .i64 (z.1.2 : Int))) := hw6
        clear ho2 h2 hr2 hks hw6
        go_upto_region 11 with fail
        rw [← HW6.out]
        clear q2 q4 g2 g4
        have ⟨e0, e1, e2, e3, e4, e5, _, _, _, _, _, _⟩ := HN6.out
        have ⟨r0, r1, r2, r3, r4, r5, g0, g1, g2, g3, g4, g5⟩ := HR6.out
        obtain ⟨wf, hwf⟩ : ∃ wf : World, wf = setNode w6 (bn + 1) 0 ⟨(o : Int), 0, (z.1.1 : Int), 0, (z.1.2 : Int), 0⟩ := ⟨_, rfl⟩
        have HNF : Hid (NodeAt wf (bn + 1) 0 ⟨(o : Int), 0, (z.1.1 : Int), 0, (z.1.2 : Int), 0⟩) := by
          show NodeAt _ _ _ _
          rw [hwf]; exact setNode_same (v := ⟨0, 0, 0, 0, 0, 0⟩) ⟨r0, r1, r2, r3, r4, r5⟩
        have HKF : Hid (Kept (fun k => k = bn + 1) w6 wf) := by
          show Kept _ _ _
          rw [hwf]; exact setNode_keptS rfl (Kept.refl _ _)
        have HWF : Hid (wf = setNode w6 (bn + 1) 0 ⟨(o : Int), 0, (z.1.1 : Int), 0, (z.1.2 : Int), 0⟩) := hwf
        clear hwf
        go_wp2
        have hWF := HWF.out
        simp only [setNode, Nat.zero_add] at hWF
        rw [← hWF]
        have j0 := HNF.out.c0
        have j1 := HNF.out.c1
        have j2 := HNF.out.c2
        have j3 := HNF.out.c3
        have j4 := HNF.out.c4
        have j5 := HNF.out.c5
        simp only [Nat.zero_add] at j1 j2 j3 j4 j5
        refine bodyPost_ret (v := .agg #[.int .i64 (⟨(o : Int), 0, (z.1.1 : Int), 0, (z.1.2 : Int), 0⟩ : Nd).op, .int .i64 (⟨(o : Int), 0, (z.1.1 : Int), 0, (z.1.2 : Int), 0⟩ : Nd).w, .int .i64 (⟨(o : Int), 0, (z.1.1 : Int), 0, (z.1.2 : Int), 0⟩ : Nd).k, .int .i64 (⟨(o : Int), 0, (z.1.1 : Int), 0, (z.1.2 : Int), 0⟩ : Nd).a, .int .i64 (⟨(o : Int), 0, (z.1.1 : Int), 0, (z.1.2 : Int), 0⟩ : Nd).b, .int .i64 (⟨(o : Int), 0, (z.1.1 : Int), 0, (z.1.2 : Int), 0⟩ : Nd).c]) (by simp [results, Tryz.results55, go_sem, j0, j1, j2, j3, j4, j5]) rfl ⟨Out.ok HP.out ⟨rfl, H6.out.kept HKF.out (fun e => HNB.out.2 e.symm), hpz⟩, kb_new HK6.out HKF.out (by have := HBN.out; omega)⟩
  by_cases h20 : o = 20
  · have hqq : ((o : Int) == 20) = true := by simp [h20]
    have hq17 : ((o : Int) == 17) = false := by rw [beq_eq_false_iff_ne]; omega
    have hq19 : ((o : Int) == 19) = false := by rw [beq_eq_false_iff_ne]; omega
    have HU : Hid (pNums (tl S) o st p = (pNeed (tl S) 32 st p).bind fun p1 => (pPair (tl S) 118 st p1).bind fun x => .ok (⟨o, 0, x.1.1, 0, x.1.2, 0⟩, x.2)) := by show _ = _; unfold pNums; rw [if_neg h17, if_pos (by omega)]
    clear h17 h19 h20
    go_enter Tryz.func55, Tryz.ntmps55
    go_wp2_with fail
    rw [← HW0.out, ← hbn]
    clear hbn
    refine (iNeed _ b S p v bm 32 st H0.out hs hp).mono ?_
    rintro e w1 ⟨ho1, hk1⟩
    have HK1 : Hid (Kb b w w1) := HK0.out.trans hk1
    have HN1 : Hid (NW w1 bn ⟨o, 0, 0, 0, 0, 0⟩) := HN0.out.kept hk1 (fun e => HNB.out.1 e)
    have HR1 : Hid (NW w1 (bn + 1) ⟨0, 0, 0, 0, 0, 0⟩) := HR0.out.kept hk1 (fun e => HNB.out.2 e)
    clear hk1
    cases h1 : pNeed (tl S) 32 st p with
    | error x =>
      obtain rfl := ho1.2 x h1
      have HP : Hid (pNums (tl S) o st p = .error x) := by show _ = _; rw [HU.out, h1]; rfl
      clear ho1 h1
      go_wp2
      exact ⟨rfl, Out.error HP.out rfl, HK1.out⟩
    | ok p1 =>
      obtain ⟨rfl, hr1, hp1⟩ := ho1.1 p1 h1
      have H1 : Hid (RB w1 b S p1 v bm) := hr1
      have HU1 : Hid (pNums (tl S) o st p = (pPair (tl S) 118 st p1).bind fun x => .ok (⟨o, 0, x.1.1, 0, x.1.2, 0⟩, x.2)) := by show _ = _; rw [HU.out, h1]; rfl
      clear ho1 h1 hr1
      go_wp2_with fail
      refine (iPairR _ b S p1 v bm 118 st (fun w' k => HG.out _ (HK1.out.trans k)) H1.out hs hp1).mono ?_
      rintro e w2 ⟨ho2, hk2⟩
      have HK2 : Hid (Kb b w w2) := HK1.out.trans hk2
      have HN2 : Hid (NW w2 bn ⟨o, 0, 0, 0, 0, 0⟩) := HN1.out.kept hk2 (fun e => HNB.out.1 e)
      have HR2 : Hid (NW w2 (bn + 1) ⟨0, 0, 0, 0, 0, 0⟩) := HR1.out.kept hk2 (fun e => HNB.out.2 e)
      clear hk2
      cases h2 : pPair (tl S) 118 st p1 with
      | error x =>
        obtain rfl := ho2.2 x h2
        have HP : Hid (pNums (tl S) o st p = .error x) := by show _ = _; rw [HU1.out, h2]; rfl
        clear ho2 h2
        go_wp2
        exact ⟨rfl, Out.error HP.out rfl, HK2.out⟩
      | ok z =>
        obtain ⟨rfl, hr2, hpz⟩ := ho2.1 z h2
        have HP : Hid (pNums (tl S) o st p = .ok (⟨o, 0, z.1.1, 0, z.1.2, 0⟩, z.2)) := by show _ = _; rw [HU1.out, h2]; rfl
        have q2 := HN2.out.c2
        have q4 := HN2.out.c4
        have g2 := HN2.out.f2
        have g4 := HN2.out.f4
        obtain ⟨w6, hw6⟩ : ∃ w6 : World, w6 = (w2.setCell ⟨bn, 2, none⟩ (.int .i64 (z.1.1 : Int))).setCell ⟨bn, 4, none⟩ (.int .i64 (z.1.2 : Int)) := ⟨_, rfl⟩
        have hks : Kept (fun k => k = bn) w2 w6 := by rw [hw6]; exact ((Kept.refl (fun k => k = bn) _).setCell (p := ⟨bn, 2, none⟩) rfl _).setCell (p := ⟨bn, 4, none⟩) rfl _
        have H6 : Hid (RB w6 b S z.2 v bm) := hr2.kept hks (fun e => HNB.out.1 e.symm)
        have HN6 : Hid (NW w6 bn ⟨o, 0, z.1.1, 0, z.1.2, 0⟩) := by show NW _ _ _; rw [hw6]; exact (HN2.out.setK _).setB _
        have HR6 : Hid (NW w6 (bn + 1) ⟨0, 0, 0, 0, 0, 0⟩) := HR2.out.kept hks (fun e => by have e' : bn + 1 = bn := e; omega)
        have HK6 : Hid (Kb b w w6) := kb_new HK2.out hks HBN.out
        have HW6 : Hid (w6 = (w2.setCell ⟨bn, 2, none⟩ (.int .i64 (z.1.1 : Int))).setCell ⟨bn, 4, none⟩ (.int .i64 (z.1.2 : Int))) := hw6
        clear ho2 h2 hr2 hks hw6
        go_upto_region 11 with fail
        rw [← HW6.out]
        clear q2 q4 g2 g4
        have ⟨e0, e1, e2, e3, e4, e5, _, _, _, _, _, _⟩ := HN6.out
        have ⟨r0, r1, r2, r3, r4, r5, g0, g1, g2, g3, g4, g5⟩ := HR6.out
        obtain ⟨wf, hwf⟩ : ∃ wf : World, wf = setNode w6 (bn + 1) 0 ⟨(o : Int), 0, (z.1.1 : Int), 0, (z.1.2 : Int), 0⟩ := ⟨_, rfl⟩
        have HNF : Hid (NodeAt wf (bn + 1) 0 ⟨(o : Int), 0, (z.1.1 : Int), 0, (z.1.2 : Int), 0⟩) := by
          show NodeAt _ _ _ _
          rw [hwf]; exact setNode_same (v := ⟨0, 0, 0, 0, 0, 0⟩) ⟨r0, r1, r2, r3, r4, r5⟩
        have HKF : Hid (Kept (fun k => k = bn + 1) w6 wf) := by
          show Kept _ _ _
          rw [hwf]; exact setNode_keptS rfl (Kept.refl _ _)
        have HWF : Hid (wf = setNode w6 (bn + 1) 0 ⟨(o : Int), 0, (z.1.1 : Int), 0, (z.1.2 : Int), 0⟩) := hwf
        clear hwf
        go_wp2
        have hWF := HWF.out
        simp only [setNode, Nat.zero_add] at hWF
        rw [← hWF]
        have j0 := HNF.out.c0
        have j1 := HNF.out.c1
        have j2 := HNF.out.c2
        have j3 := HNF.out.c3
        have j4 := HNF.out.c4
        have j5 := HNF.out.c5
        simp only [Nat.zero_add] at j1 j2 j3 j4 j5
        refine bodyPost_ret (v := .agg #[.int .i64 (⟨(o : Int), 0, (z.1.1 : Int), 0, (z.1.2 : Int), 0⟩ : Nd).op, .int .i64 (⟨(o : Int), 0, (z.1.1 : Int), 0, (z.1.2 : Int), 0⟩ : Nd).w, .int .i64 (⟨(o : Int), 0, (z.1.1 : Int), 0, (z.1.2 : Int), 0⟩ : Nd).k, .int .i64 (⟨(o : Int), 0, (z.1.1 : Int), 0, (z.1.2 : Int), 0⟩ : Nd).a, .int .i64 (⟨(o : Int), 0, (z.1.1 : Int), 0, (z.1.2 : Int), 0⟩ : Nd).b, .int .i64 (⟨(o : Int), 0, (z.1.1 : Int), 0, (z.1.2 : Int), 0⟩ : Nd).c]) (by simp [results, Tryz.results55, go_sem, j0, j1, j2, j3, j4, j5]) rfl ⟨Out.ok HP.out ⟨rfl, H6.out.kept HKF.out (fun e => HNB.out.2 e.symm), hpz⟩, kb_new HK6.out HKF.out (by have := HBN.out; omega)⟩
  have hq17 : ((o : Int) == 17) = false := by rw [beq_eq_false_iff_ne]; omega
  have hq19 : ((o : Int) == 19) = false := by rw [beq_eq_false_iff_ne]; omega
  have hq20 : ((o : Int) == 20) = false := by rw [beq_eq_false_iff_ne]; omega
  have HP : Hid (pNums (tl S) o st p = .ok (⟨o, 0, 0, 0, 0, 0⟩, p)) := by
    show _ = _
    unfold pNums
    rw [if_neg h17, if_neg (by omega)]
  have hpz := hp
  clear h17 h19 h20
  go_enter Tryz.func55, Tryz.ntmps55
  go_upto_region 11 with fail
  rw [← HW0.out, ← hbn]
  clear hbn
  have ⟨e0, e1, e2, e3, e4, e5, _, _, _, _, _, _⟩ := HN0.out
  have ⟨r0, r1, r2, r3, r4, r5, g0, g1, g2, g3, g4, g5⟩ := HR0.out
  obtain ⟨wf, hwf⟩ : ∃ wf : World, wf = setNode w0 (bn + 1) 0 ⟨(o : Int), 0, 0, 0, 0, 0⟩ := ⟨_, rfl⟩
  have HNF : Hid (NodeAt wf (bn + 1) 0 ⟨(o : Int), 0, 0, 0, 0, 0⟩) := by
    show NodeAt _ _ _ _
    rw [hwf]; exact setNode_same (v := ⟨0, 0, 0, 0, 0, 0⟩) ⟨r0, r1, r2, r3, r4, r5⟩
  have HKF : Hid (Kept (fun k => k = bn + 1) w0 wf) := by
    show Kept _ _ _
    rw [hwf]; exact setNode_keptS rfl (Kept.refl _ _)
  have HWF : Hid (wf = setNode w0 (bn + 1) 0 ⟨(o : Int), 0, 0, 0, 0, 0⟩) := hwf
  clear hwf
  go_wp2
  have hWF := HWF.out
  simp only [setNode, Nat.zero_add] at hWF
  rw [← hWF]
  have j0 := HNF.out.c0
  have j1 := HNF.out.c1
  have j2 := HNF.out.c2
  have j3 := HNF.out.c3
  have j4 := HNF.out.c4
  have j5 := HNF.out.c5
  simp only [Nat.zero_add] at j1 j2 j3 j4 j5
  refine bodyPost_ret (v := .agg #[.int .i64 (⟨(o : Int), 0, 0, 0, 0, 0⟩ : Nd).op, .int .i64 (⟨(o : Int), 0, 0, 0, 0, 0⟩ : Nd).w, .int .i64 (⟨(o : Int), 0, 0, 0, 0, 0⟩ : Nd).k, .int .i64 (⟨(o : Int), 0, 0, 0, 0, 0⟩ : Nd).a, .int .i64 (⟨(o : Int), 0, 0, 0, 0, 0⟩ : Nd).b, .int .i64 (⟨(o : Int), 0, 0, 0, 0, 0⟩ : Nd).c]) (by simp [results, Tryz.results55, go_sem, j0, j1, j2, j3, j4, j5]) rfl ⟨Out.ok HP.out ⟨rfl, H0.out.kept HKF.out (fun e => HNB.out.2 e.symm), hpz⟩, kb_new HK0.out HKF.out (by have := HBN.out; omega)⟩

end Go.Proofs.YtmghkeahlhlclaaGreatDoor.Pr5

/- The deferred function of the program's ReadTerm. -/
namespace Go.Proofs.YtmghkeahlhlclaaGreatDoor.Pr6
open Go.RowKit
open Nd0 Nd3 Tm0 Tx0 Tx1 Ss0 Ss1 Tb0 Px0 Pr1
set_option linter.unusedVariables false

theorem asNil (xT : TypeId) (W : World) : (Instr.typeAssert .nilIface xT 50 true).run Tryz.prog W = .ok (.tuple #[.agg #[.int .i64 0, .int .i64 0], .bool false]) W := by kernel_rfl
theorem asYes (xT : TypeId) (v : Value) (W : World) : (Instr.typeAssert (.iface 50 v) xT 50 true).run Tryz.prog W = .ok (.tuple #[v, .bool true]) W := by kernel_rfl

set_option maxRecDepth 100000 in
set_option maxHeartbeats 4000000 in
theorem catchIdle (p q r : Addr) (w : World) :
    CallsD Tryz.prog 30 #[.pointer (some p), .pointer (some q), .pointer (some r)] .returning w fun e u' w' => e = .returned (.tuple #[]) ∧ u' = .returning ∧ Below w.heap.size w w' := by
  refine callsD_of_wpS Tryz.func30 rfl fun c₀ cs hu => ?_
  apply wpS_seq
  apply wpS_region
  simp [wpOpsS, go_sem, recoverD, hu, Tryz.ntmps30, Exit.thenS, asNil]
  refine wpS_of_wp ?_
  change Code.wp _ _ _ { tmps := #[.pointer (some p), .pointer (some q), .pointer (some r), .pointer (some ⟨w.heap.size, 0, none⟩), .bool false, .tuple #[.agg #[.int .i64 0, .int .i64 0], .bool false], .nilIface, .tuple #[.agg #[.int .i64 0, .int .i64 0], .bool false], .agg #[.int .i64 0, .int .i64 0], .bool false, undef, undef, undef, undef, undef, undef], defers := [] } _
  go_wp2
  refine ⟨rfl, .returning, by cases c₀; simp_all, .tuple #[], by simp [results, Tryz.results30, go_sem], rfl, rfl, (Below.refl _ _).alloc (Nat.le_refl _) _⟩

theorem wp_tmps {P : Program} {c : Code} {Q : Exit → Act → World → Prop} {T T' : Array Value} {d : List Deferred} {w : World} (h : T = T') (k : Code.wp P c Q ⟨T', d⟩ w) : Code.wp P c Q ⟨T, d⟩ w := h ▸ k
theorem set_far {w : World} {p q : Addr} {v : Value} (h : p.block ≠ q.block) : (w.setCell p v).cell? q = w.cell? q := set_other (fun e => h (by rw [e]))

set_option maxRecDepth 100000 in
set_option maxHeartbeats 1000000 in
theorem catchFail (pb qb rb : Nat) (x : Er) (older : List PanicEntry) (w : World) (hpq : pb ≠ qb) (hpr : pb ≠ rb) (hqr : qb ≠ rb) (u v y : Value)
    (hp : w.cell? ⟨pb, 0, none⟩ = some u) (hq : w.cell? ⟨qb, 0, none⟩ = some v) (hr : w.cell? ⟨rb, 0, none⟩ = some y) (fp : w.frozen? ⟨pb, 0, none⟩ = false) (fq : w.frozen? ⟨qb, 0, none⟩ = false) (fr : w.frozen? ⟨rb, 0, none⟩ = false) :
    CallsD Tryz.prog 30 #[.pointer (some ⟨pb, 0, none⟩), .pointer (some ⟨qb, 0, none⟩), .pointer (some ⟨rb, 0, none⟩)] (.panicking (fl x :: older)) w fun e u' w' =>
      e = .returned (.tuple #[]) ∧ u' = .panicking ({ v := (fl x).v, recovered := true } :: older) ∧ (∃ k, w'.cell? ⟨pb, 0, none⟩ = some (.slice (some ⟨k, 0, none⟩) 0 0)) ∧ w'.cell? ⟨qb, 0, none⟩ = some (.int .i64 x.1) ∧ w'.cell? ⟨rb, 0, none⟩ = some (.int .i64 (x.2 : Int)) ∧ Kept (fun k => k = pb ∨ k = qb ∨ k = rb) w w' := by
  have hpl := lt_of_cell hp
  have hql := lt_of_cell hq
  have hrl := lt_of_cell hr
  simp only at hpl hql hrl
  obtain ⟨g, hg⟩ : ∃ g : Nat, g = w.heap.size := ⟨_, rfl⟩
  refine callsD_of_wpS Tryz.func30 rfl fun c₀ cs hu => ?_
  have HU : Hid (c₀.mode = .panicking (fl x :: older)) := hu
  unfold fl at hu
  apply wpS_seq
  apply wpS_region
  simp [wpOpsS, go_sem, recoverD, hu, Tryz.ntmps30, Exit.thenS, asYes]
  refine wpS_of_wp ?_
  rw [← hg]
  refine wp_tmps (T' := #[.pointer (some ⟨pb, 0, none⟩), .pointer (some ⟨qb, 0, none⟩), .pointer (some ⟨rb, 0, none⟩), .pointer (some ⟨g, 0, none⟩), .bool true, .tuple #[.agg #[.int .i64 x.1, .int .i64 (x.2 : Int)], .bool true], .iface 50 (.agg #[.int .i64 x.1, .int .i64 (x.2 : Int)]), .tuple #[.agg #[.int .i64 x.1, .int .i64 (x.2 : Int)], .bool true], .agg #[.int .i64 x.1, .int .i64 (x.2 : Int)], .bool true, undef, undef, undef, undef, undef, undef]) (by simp [Array.replicate, List.replicate]) ?_
  obtain ⟨w1, hw1⟩ : ∃ w1 : World, w1 = w.alloc (.cells #[.int .i64 x.1, .int .i64 (x.2 : Int)] 50) := ⟨_, rfl⟩
  have hk1 : Kept (fun _ => False) w w1 := by rw [hw1]; exact (Kept.refl _ _).alloc _
  have s0 : w1.cell? ⟨g, 0, none⟩ = some (.int .i64 x.1) := by rw [hw1, hg, World.cell?_alloc_new]; rfl
  have s1 : w1.cell? ⟨g, 1, none⟩ = some (.int .i64 (x.2 : Int)) := by rw [hw1, hg, World.cell?_alloc_new]; rfl
  have hgs : g < w1.heap.size := lt_of_cell s0
  have n1 : pb ≠ g := by omega
  have n2 : qb ≠ g := by omega
  have n3 : rb ≠ g := by omega
  rw [← hw1]
  have p1 : w1.cell? ⟨pb, 0, none⟩ = some u := by rw [hk1.cell (p := ⟨pb, 0, none⟩) hpl (fun e => e)]; exact hp
  have q1 : w1.cell? ⟨qb, 0, none⟩ = some v := by rw [hk1.cell (p := ⟨qb, 0, none⟩) hql (fun e => e)]; exact hq
  have r1 : w1.cell? ⟨rb, 0, none⟩ = some y := by rw [hk1.cell (p := ⟨rb, 0, none⟩) hrl (fun e => e)]; exact hr
  have fp1 : w1.frozen? ⟨pb, 0, none⟩ = false := by rw [hk1.frozen (p := ⟨pb, 0, none⟩) hpl (fun e => e)]; exact fp
  have fq1 : w1.frozen? ⟨qb, 0, none⟩ = false := by rw [hk1.frozen (p := ⟨qb, 0, none⟩) hql (fun e => e)]; exact fq
  have fr1 : w1.frozen? ⟨rb, 0, none⟩ = false := by rw [hk1.frozen (p := ⟨rb, 0, none⟩) hrl (fun e => e)]; exact fr
  obtain ⟨wa, hwa⟩ : ∃ wa : World, wa = w1.alloc (.cells #[] 48) := ⟨_, rfl⟩
  have hka : Kept (fun _ => False) w1 wa := by rw [hwa]; exact (Kept.refl _ _).alloc _
  have ha : ∀ {b o : Nat} {z : Value}, w1.cell? ⟨b, o, none⟩ = some z → wa.cell? ⟨b, o, none⟩ = some z := fun h => by rw [hka.cell (p := ⟨_, _, none⟩) (lt_of_cell h) (fun e => e)]; exact h
  have hfa : ∀ {b : Nat}, b < w1.heap.size → w1.frozen? ⟨b, 0, none⟩ = false → wa.frozen? ⟨b, 0, none⟩ = false := fun hb h => by rw [hka.frozen (p := ⟨_, 0, none⟩) hb (fun e => e)]; exact h
  have HS0 : Hid (w1.drew.cell? ⟨g, 0, none⟩ = some (.int .i64 x.1) ∧ w1.drew.cell? ⟨g, 1, none⟩ = some (.int .i64 (x.2 : Int))) := ⟨s0, s1⟩
  have HS4 : Hid ((w1.alloc (.cells #[] 48)).drew.cell? ⟨g, 0, none⟩ = some (.int .i64 x.1) ∧ (w1.alloc (.cells #[] 48)).drew.cell? ⟨g, 1, none⟩ = some (.int .i64 (x.2 : Int))) := by rw [← hwa]; exact (⟨ha s0, ha s1⟩ : wa.cell? _ = _ ∧ wa.cell? _ = _)
  have HC5 : Hid ((w1.alloc (.cells #[] 48)).drew.cell? ⟨pb, 0, none⟩ = some u) := by rw [← hwa]; exact (ha p1 : wa.cell? _ = _)
  have HF5 : Hid ((w1.alloc (.cells #[] 48)).drew.frozen? ⟨pb, 0, none⟩ = false) := by rw [← hwa]; exact (hfa (lt_of_cell p1) fp1 : wa.frozen? _ = _)
  obtain ⟨w5, hw5⟩ : ∃ w5 : World, w5 = wa.setCell ⟨pb, 0, none⟩ (.slice (some ⟨w1.heap.size, 0, none⟩) 0 0) := ⟨_, rfl⟩
  obtain ⟨w6, hw6⟩ : ∃ w6 : World, w6 = w5.setCell ⟨qb, 0, none⟩ (.int .i64 x.1) := ⟨_, rfl⟩
  obtain ⟨w7, hw7⟩ : ∃ w7 : World, w7 = w6.setCell ⟨rb, 0, none⟩ (.int .i64 (x.2 : Int)) := ⟨_, rfl⟩
  have c5 : ∀ {b o : Nat} {z : Value}, pb ≠ b → wa.cell? ⟨b, o, none⟩ = some z → w5.cell? ⟨b, o, none⟩ = some z := fun hb h => by rw [hw5, set_far (by exact hb)]; exact h
  have c6 : ∀ {b o : Nat} {z : Value}, qb ≠ b → w5.cell? ⟨b, o, none⟩ = some z → w6.cell? ⟨b, o, none⟩ = some z := fun hb h => by rw [hw6, set_far (by exact hb)]; exact h
  have c7 : ∀ {b o : Nat} {z : Value}, rb ≠ b → w6.cell? ⟨b, o, none⟩ = some z → w7.cell? ⟨b, o, none⟩ = some z := fun hb h => by rw [hw7, set_far (by exact hb)]; exact h
  have HS5 : Hid (w5.drew.cell? ⟨g, 0, none⟩ = some (.int .i64 x.1) ∧ w5.drew.cell? ⟨g, 1, none⟩ = some (.int .i64 (x.2 : Int))) := ⟨c5 n1 (ha s0), c5 n1 (ha s1)⟩
  have HC6 : Hid (w5.drew.cell? ⟨qb, 0, none⟩ = some v) := c5 hpq (ha q1)
  have HF6 : Hid (w5.drew.frozen? ⟨qb, 0, none⟩ = false) := by show w5.frozen? _ = _; rw [hw5, World.frozen?_setCell]; exact hfa (lt_of_cell q1) fq1
  have HS6 : Hid (w6.drew.cell? ⟨g, 0, none⟩ = some (.int .i64 x.1) ∧ w6.drew.cell? ⟨g, 1, none⟩ = some (.int .i64 (x.2 : Int))) := ⟨c6 n2 (show w5.cell? _ = _ from HS5.out.1), c6 n2 (show w5.cell? _ = _ from HS5.out.2)⟩
  have HC7 : Hid (w6.drew.cell? ⟨rb, 0, none⟩ = some y) := c6 hqr (c5 hpr (ha r1))
  have HF7 : Hid (w6.drew.frozen? ⟨rb, 0, none⟩ = false) := by show w6.frozen? _ = _; rw [hw6, World.frozen?_setCell, hw5, World.frozen?_setCell]; exact hfa (lt_of_cell r1) fr1
  have HS7 : Hid (w7.drew.cell? ⟨g, 0, none⟩ = some (.int .i64 x.1) ∧ w7.drew.cell? ⟨g, 1, none⟩ = some (.int .i64 (x.2 : Int))) := ⟨c7 n3 (show w6.cell? _ = _ from HS6.out.1), c7 n3 (show w6.cell? _ = _ from HS6.out.2)⟩
  have HE : Hid ((∃ k, w7.drew.cell? ⟨pb, 0, none⟩ = some (.slice (some ⟨k, 0, none⟩) 0 0)) ∧ w7.drew.cell? ⟨qb, 0, none⟩ = some (.int .i64 x.1) ∧ w7.drew.cell? ⟨rb, 0, none⟩ = some (.int .i64 (x.2 : Int)) ∧ Kept (fun k => k = pb ∨ k = qb ∨ k = rb) w w7.drew) := by
    refine ⟨⟨w1.heap.size, ?_⟩, ?_, ?_, ?_⟩
    · exact c7 hpr.symm (c6 hpq.symm (by rw [hw5]; exact set_same (ha p1)))
    · exact c7 hqr.symm (by rw [hw6]; exact set_same (c5 hpq (ha q1)))
    · show w7.cell? _ = _; rw [hw7]; exact set_same (show w6.cell? _ = _ from HC7.out)
    · have k5 : Kept (fun k => k = pb ∨ k = qb ∨ k = rb) w w5 := by
        rw [hw5]
        exact (((⟨hk1.os, hk1.tape, hk1.output, hk1.size, fun i hi _ => hk1.block i hi (fun e => e)⟩ : Kept (fun k => k = pb ∨ k = qb ∨ k = rb) w w1).trans ⟨hka.os, hka.tape, hka.output, hka.size, fun i hi _ => hka.block i hi (fun e => e)⟩)).setCell (p := ⟨pb, 0, none⟩) (.inl rfl) _
      have k6 : Kept (fun k => k = pb ∨ k = qb ∨ k = rb) w w6 := by rw [hw6]; exact k5.setCell (p := ⟨qb, 0, none⟩) (.inr (.inl rfl)) _
      have k7 : Kept (fun k => k = pb ∨ k = qb ∨ k = rb) w w7 := by rw [hw7]; exact k6.setCell (p := ⟨rb, 0, none⟩) (.inr (.inr rfl)) _
      exact k7.drewN 1
  have HW7 : Hid (w7 = (((w1.alloc (.cells #[] 48)).setCell ⟨pb, 0, none⟩ (.slice (some ⟨w1.heap.size, 0, none⟩) 0 0)).setCell ⟨qb, 0, none⟩ (.int .i64 x.1)).setCell ⟨rb, 0, none⟩ (.int .i64 (x.2 : Int))) := by show _ = _; rw [hw7, hw6, hw5, hwa]
  rw [hw7, hw6, hw5, hwa] at HS7
  rw [hw6, hw5, hwa] at HC7 HF7 HS6
  rw [hw5, hwa] at HC6 HF6 HS5
  clear hw5 hw6 hw7 hwa c5 c6 c7 ha hfa hka hk1 p1 q1 r1 fp1 fq1 fr1 s0 s1 hp hq hr fp fq fr hw1 hg
  go_wp2
  refine wp_region_held_drew (S := fun u => u.cell? ⟨g, 0, none⟩ = some (.int .i64 x.1) ∧ u.cell? ⟨g, 1, none⟩ = some (.int .i64 (x.2 : Int))) (by kernel_rfl) HS0.out (fun hHeld => ?_)
  refine wpAnyH_take (i := 1) (v := ?_) rfl (by kernel_rfl) (by kernel_rfl) (by kernel_rfl) (fun _ _ _ h => h) (Or.inl ⟨by rfl, ?_⟩) hHeld ?_
  rotate_left
  · intro v9 hS9
    try dsimp only at hS9
    go_simp
    try with_reducible rfl
  try simp only [Act.put, List.setIfInBounds_toArray, List.set_cons_zero, List.set_cons_succ, List.getElem_toArray, List.getElem_cons_zero, List.getElem_cons_succ]
  refine wpAnyH_take (i := 2) (v := ?_) rfl (by kernel_rfl) (by kernel_rfl) (by kernel_rfl) (fun _ _ _ h => h) (Or.inl ⟨by rfl, ?_⟩) hHeld ?_
  rotate_left
  · intro v9 hS9
    try dsimp only at hS9
    obtain ⟨d0, d1⟩ := hS9
    go_simp
    try with_reducible rfl
  try simp only [Act.put, List.setIfInBounds_toArray, List.set_cons_zero, List.set_cons_succ, List.getElem_toArray, List.getElem_cons_zero, List.getElem_cons_succ]
  refine wpAnyH_take (i := 3) (v := ?_) rfl (by kernel_rfl) (by kernel_rfl) (by kernel_rfl) (fun _ _ _ h => h) (Or.inl ⟨by rfl, ?_⟩) hHeld ?_
  rotate_left
  · intro v9 hS9
    try dsimp only at hS9
    go_simp
    try with_reducible rfl
  try simp only [Act.put, List.setIfInBounds_toArray, List.set_cons_zero, List.set_cons_succ, List.getElem_toArray, List.getElem_cons_zero, List.getElem_cons_succ]
  refine wpAnyH_take (i := 4) (v := ?_) rfl (by kernel_rfl) (by kernel_rfl) (by kernel_rfl) (fun _ _ _ h => h) (Or.inl ⟨by rfl, ?_⟩) hHeld ?_
  rotate_left
  · intro v9 hS9
    try dsimp only at hS9
    obtain ⟨d0, d1⟩ := hS9
    go_simp
    try with_reducible rfl
  try simp only [Act.put, List.setIfInBounds_toArray, List.set_cons_zero, List.set_cons_succ, List.getElem_toArray, List.getElem_cons_zero, List.getElem_cons_succ]
  refine wpAnyH_ready (rs := [0]) (by kernel_rfl) (by simp) ?_
  refine (AllReadyH.cons rfl (fun K hK => ?_) AllReadyH.nil)
  ·
    go_simp
    refine hK.out _ _ (HS4.out) (fun hNext => ?_)
    clear hK K hHeld
    have hHeld := hNext
    clear hNext
    refine wpAnyH_ready (rs := [5]) (by kernel_rfl) (by simp) ?_
    refine (AllReadyH.cons rfl (fun K hK => ?_) AllReadyH.nil)
    ·
      have k5 := HC5.out
      have f5 := HF5.out
      go_simp
      refine hK.out _ _ (HS5.out) (fun hNext => ?_)
      clear hK K hHeld
      have hHeld := hNext
      clear hNext
      refine wpAnyH_ready (rs := [6]) (by kernel_rfl) (by simp) ?_
      refine (AllReadyH.cons rfl (fun K hK => ?_) AllReadyH.nil)
      ·
        have k6 := HC6.out
        have f6 := HF6.out
        go_simp
        refine hK.out _ _ (HS6.out) (fun hNext => ?_)
        clear hK K hHeld
        have hHeld := hNext
        clear hNext
        refine wpAnyH_ready (rs := [7]) (by kernel_rfl) (by simp) ?_
        refine (AllReadyH.cons rfl (fun K hK => ?_) AllReadyH.nil)
        ·
          have k7 := HC7.out
          have f7 := HF7.out
          go_simp
          refine hK.out _ _ (HS7.out) (fun hNext => ?_)
          clear hK K hHeld
          have hHeld := hNext
          clear hNext
          refine wpAnyH_done (by kernel_rfl) ?_ _
          go_wp2
          (rw [← HW7.out]; exact ⟨rfl, _, rfl, .tuple #[], by simp [results, Tryz.results30, go_sem], rfl, rfl, HE.out⟩)

end Go.Proofs.YtmghkeahlhlclaaGreatDoor.Pr6

/- The walk of the program's reader: the operator of a word. -/
namespace Go.Proofs.YtmghkeahlhlclaaGreatDoor.Pr10
open Go.RowKit
open Nd0 Nd3 Tm0 Tx0 Tx1 Tx5 Ss0 Ss1 Tb0 Tb1 Px0 Px1 Pr1 Pr2
set_option linter.unusedVariables false

set_option maxRecDepth 100000 in
set_option maxHeartbeats 2000000 in
theorem iOpOf (w : World) (W : ByteArray) (h : Tabs w) :
    Calls Tryz.prog 80 #[.string W] w fun e w' => e = .returned (.tuple #[.int .i64 (((opP (tl W)).getD 0 : Nat) : Int), .bool (opP (tl W)).isSome]) ∧ Below w.heap.size w w' := by
  have H : Hid (Tabs w) := h
  clear h
  go_enter Tryz.func80, Tryz.ntmps80
  go_wp2_with fail
  go_loopw [4] (fun q wr => ∃ k : Nat, 2 ≤ k ∧ k ≤ 21 ∧ q = .int .i64 k ∧ wr = w ∧ ∀ j, 2 ≤ j → j < k → opTab.getD j [] ≠ tl W) (fun q _ => 21 - (intOf q).toNat)
  case atStart => exact ⟨2, Nat.le_refl _, by omega, rfl, rfl, fun j h1 h2 => by omega⟩
  case round =>
    obtain ⟨k, hk2, hk21, rfl, rfl, hn⟩ := hrel
    have HNO : Hid (∀ j, 2 ≤ j → j < k → opTab.getD j [] ≠ tl W) := hn
    clear hn
    by_cases hlt : k ≤ 20
    · have hkz : (k : Int) ≤ 20 := by omega
      have hkz2 : (k : Int) < 21 := by omega
      have hc := H.out.ops k (by omega)
      obtain ⟨X, hX⟩ : ∃ X, opTab.getD k [] = X := ⟨_, rfl⟩
      rw [hX] at hc
      have HX : Hid (opTab.getD k [] = X) := hX
      clear hX
      by_cases he : X = tl W
      · have hq : ((bs X).toList == W.toList) = true := eqb_true (by rw [tl_bs]; exact he)
        have HE : Hid (opP (tl W) = some k) := opP_at hk2 hlt (by rw [HX.out]; exact he) HNO.out
        clear he
        go_wp2
        refine bodyPost_ret (v := .tuple #[.int .i64 (k : Int), .bool true]) (by simp [results, Tryz.results80, go_sem]) rfl ⟨by rw [HE.out]; rfl, Below.refl _ _⟩
      · have hq : ((bs X).toList == W.toList) = false := eqb_false (by rw [tl_bs]; exact he)
        have HN2 : Hid (∀ j, 2 ≤ j → j < k + 1 → opTab.getD j [] ≠ tl W) := fun j h1 h2 => by
          by_cases hj : j = k
          · subst hj; rw [HX.out]; exact he
          · exact HNO.out j h1 (by omega)
        clear he
        go_wp2
        go_roundw
        case rel => exact ⟨k + 1, by omega, by omega, by go_num, trivial, HN2.out⟩
        case measure => simp [intOf]; omega
    · have hkz : ¬ (k : Int) ≤ 20 := by omega
      have hk : k = 21 := by omega
      have HE : Hid (opP (tl W) = none) := opP_none (fun j h1 h2 => HNO.out j h1 (by omega))
      clear hk
      go_wp2
      refine bodyPost_ret (v := .tuple #[.int .i64 0, .bool false]) (by simp [results, Tryz.results80, go_sem]) rfl ⟨by rw [HE.out]; rfl, Below.refl _ _⟩

end Go.Proofs.YtmghkeahlhlclaaGreatDoor.Pr10

/- The walk of the program's reader: the operator of a node. -/
namespace Go.Proofs.YtmghkeahlhlclaaGreatDoor.Pr11
open Go.RowKit
open Nd0 Nd3 Tm0 Tx0 Tx1 Tx5 Ss0 Ss1 Tb0 Tb1 Px0 Pr1 Pr2 Pr10
open Ss5 (Kb)
open Ss3 (kept_set)
set_option linter.unusedVariables false

theorem cut_at (s : List UInt8) : (if 0 ≤ Lib.index s [32] then s.take (Lib.index s [32]).toNat else s) = s.takeWhile (fun c => c != 32) := by
  induction s with
  | nil => simp [Lib.index]
  | cons c l ih =>
    by_cases h : c = 32
    · subst h
      have e : Lib.index (32 :: l) [32] = 0 := by unfold Lib.index; rw [if_pos (by simp [List.isPrefixOf])]
      rw [e]; simp
    · rw [List.takeWhile_cons_of_pos (by simp [h]), ← ih]
      have e : Lib.index (c :: l) [32] = if Lib.index l [32] == -1 then -1 else Lib.index l [32] + 1 := by
        conv => lhs; unfold Lib.index
        rw [if_neg (by simp [List.isPrefixOf]; exact fun z => h z.symm)]
      have hg := Lib.index_ge l [32]
      by_cases e1 : Lib.index l [32] = -1
      · rw [e, e1]; simp
      · have h0 : 0 ≤ Lib.index l [32] := by omega
        have e2 : Lib.index (c :: l) [32] = Lib.index l [32] + 1 := by rw [e, if_neg (by simpa using e1)]
        rw [e2, if_pos (by omega), if_pos h0, show (Lib.index l [32] + 1).toNat = (Lib.index l [32]).toNat + 1 by omega, List.take_succ_cons]
theorem cut_one (s : List UInt8) : (Lib.cut s [32]).1 = s.takeWhile (fun c => c != 32) := by
  rw [← cut_at]
  unfold Lib.cut
  split <;> rfl

/-- What strings.Cut at a blank leaves. -/
def cutX (S : ByteArray) : ByteArray := ⟨(Lib.cut S.data.toList [32]).1.toArray⟩
def cutY (S : ByteArray) : ByteArray := ⟨(Lib.cut S.data.toList [32]).2.1.toArray⟩
def cutB (S : ByteArray) : Bool := (Lib.cut S.data.toList [32]).2.2
theorem cutX_tl (S : ByteArray) : tl (cutX S) = (tl S).takeWhile (fun c => c != 32) := by
  rw [← cut_one]; rfl
theorem iCut (S : ByteArray) (w : World) (hm : ∃ m, w.cell? ⟨2, 0, none⟩ = some (.int .i64 m)) (hs : S.size ≤ 100000) :
    Calls Tryz.prog 79 #[.string S, .string ⟨#[32]⟩] w fun e w' => e = .returned (.tuple #[.string (cutX S), .string (cutY S), .bool (cutB S)]) ∧ ∃ n, w' = w.drewN n := by
  obtain ⟨m, hm⟩ := hm
  exact Tryz.strings_Cut S ⟨#[32]⟩ m w (by omega) hm

theorem kb_below {b : Nat} {w w2 w3 : World} (h : Kb b w w2) (k : Below w2.heap.size w2 w3) : Kb b w w3 :=
  ⟨k.os.trans h.os, k.tape.trans h.tape, k.output.trans h.output, Nat.le_trans h.size k.size, fun i hi hn => by rw [k.block i (Nat.lt_of_lt_of_le hi h.size), h.block i hi hn]⟩
set_option maxRecDepth 100000 in
set_option maxHeartbeats 4000000 in
theorem iOperator (w : World) (b : Nat) (S : ByteArray) (p : Nat) (v : Value) (bm : Nat) (st : Nat) (hg : ∀ w', Kb b w w' → TabR w') (h : RB w b S p v bm) (hs : S.size ≤ 100000) (hp : p ≤ S.size) :
    Calls Tryz.prog 53 #[.pointer (some ⟨b, 0, none⟩), .int .i64 st] w fun e w' => Out (pOp (tl S) st p) (fun y => e = .returned (.int .i64 (y.1 : Int)) ∧ RB w' b S y.2 v bm ∧ y.2 ≤ S.size) (fun x => e = .panicked [fl x]) ∧ Kb b w w' := by
  have H : Hid (RB w b S p v bm) := h
  have HG : Hid (∀ w', Kb b w w' → TabR w') := hg
  clear h hg
  go_enter Tryz.func53, Tryz.ntmps53
  go_wp2_with fail
  refine (iNeed _ b S p v bm 40 st H.out hs hp).mono ?_
  rintro e w1 ⟨ho1, hk1⟩
  have HK1 : Hid (Kb b w w1) := hk1
  clear hk1
  cases h1 : pNeed (tl S) 40 st p with
  | error x =>
    obtain rfl := ho1.2 x h1
    have HP : Hid (pOp (tl S) st p = .error x) := by show _ = _; unfold pOp; rw [h1]; rfl
    clear ho1 h1
    go_wp2
    exact ⟨rfl, Out.error HP.out rfl, HK1.out⟩
  | ok p1 =>
    obtain ⟨rfl, hr1, hp1⟩ := ho1.1 p1 h1
    have H1 : Hid (RB w1 b S p1 v bm) := hr1
    have HP1 : Hid (pNeed (tl S) 40 st p = .ok p1) := h1
    clear ho1 h1 hr1
    have hpz : (p1 : Int) ≤ (S.size : Int) := by omega
    have hmx := (HG.out _ HK1.out).max
    have HMX : Hid (∃ m, w1.cell? ⟨2, 0, none⟩ = some (.int .i64 m)) := hmx
    have HSZ : Hid ((S.extract p1 S.size).size ≤ 100000) := by show _ ≤ _; rw [ByteArray.size_extract]; omega
    have HWD : Hid (tl (cutX (S.extract p1 S.size)) = pWord (tl S) p1) := by
      show _ = _
      rw [cutX_tl, tl_ext, List.take_of_length_le (by rw [tl_length]; exact Nat.le_refl _)]
      rfl
    clear hmx
    have c0 := H1.out.c0
    have c1 := H1.out.c1
    go_wp2_with fail
    go_quiet ((go_at_call 79; exact Calls.quiet_of (iCut _ _ HMX.out HSZ.out)))
    obtain ⟨X, hX⟩ : ∃ X, cutX (S.extract p1 S.size) = X := ⟨_, rfl⟩
    have HXW : Hid (tl X = pWord (tl S) p1) := by show _ = _; rw [← hX]; exact HWD.out
    have HXS : Hid (X.size = (pWord (tl S) p1).length) := by show _ = _; rw [← HXW.out, tl_length]
    have HXL : Hid (p1 + (pWord (tl S) p1).length ≤ S.size) := by
      show _ ≤ _
      have h1 := (List.takeWhile_sublist (fun c : UInt8 => c != 32) (l := (tl S).drop p1)).length_le
      rw [List.length_drop, tl_length] at h1
      unfold pWord
      omega
    have H2 : Hid (RB (w1.drewN nq) b S p1 v bm) := H1.out.drewN _
    have HK2 : Hid (Kb b w (w1.drewN nq)) := HK1.out.drewN _
    generalize w1.drewN nq = w2 at H2 HK2
    rw [hX]
    clear hX c0 c1
    have hxz : (p1 : Int) + (X.size : Int) ≤ 100000 := by have := HXS.out; have := HXL.out; omega
    have hxz0 : (0 : Int) ≤ (p1 : Int) + (X.size : Int) := by omega
    go_wp2_with fail
    refine (iOpOf _ _ (HG.out _ HK2.out).tabs).mono ?_
    rw [HXW.out]
    rintro e w3 ⟨rfl, hb3⟩
    have H3 : Hid (RB w3 b S p1 v bm) := H2.out.below hb3
    have HK3 : Hid (Kb b w w3) := kb_below HK2.out hb3
    have m1 := H3.out.c1
    have g1 := H3.out.f1
    clear hb3
    cases ho : opP (pWord (tl S) p1) with
    | none =>
      have HP : Hid (pOp (tl S) st p = .error (2, st)) := by show _ = _; unfold pOp; rw [HP1.out]; simp only [Except.bind]; rw [ho]
      clear ho
      simp only [Option.getD_none, Option.isSome_none]
      go_wp2_with fail
      refine (iFail _ _ _).mono ?_
      rintro e w' ⟨rfl, rfl⟩
      go_wp2
      exact ⟨rfl, Out.error HP.out rfl, HK3.out⟩
    | some o =>
      have HP : Hid (pOp (tl S) st p = .ok (o, p1 + (pWord (tl S) p1).length)) := by show _ = _; unfold pOp; rw [HP1.out]; simp only [Except.bind]; rw [ho]
      clear ho
      simp only [Option.getD_some, Option.isSome_some]
      go_wp2
      go_ret
      refine ⟨Out.ok HP.out ⟨rfl, H3.out.move _ _ ?_, HXL.out⟩, kept_set HK3.out _⟩
      have := HXS.out
      omega

end Go.Proofs.YtmghkeahlhlclaaGreatDoor.Pr11
